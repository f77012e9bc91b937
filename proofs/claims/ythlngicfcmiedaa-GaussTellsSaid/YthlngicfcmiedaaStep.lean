/-
  gauss.restBy, its closure, gauss.step, gauss.Next: their contracts.
-/
import Derived.Test.YthlngicfcmiedaaIn
import Derived.RangeFuncBox
namespace Go.Proofs.Ythlngicfcmiedaa
open Go.RowKit

theorem tmod_neg {n : Int} (h : n < 0) : n.tmod 10007 = -(-n % 10007) := by
  have h1 := Int.neg_tmod (-n) 10007
  rw [Int.neg_neg, Int.tmod_eq_emod_of_nonneg (a := -n) (by omega)] at h1
  exact h1
/-- What Go's rest of a number below 0 comes to, and what is made of it. -/
theorem rest_neg {n : Int} (h : n < 0) : ∃ m : Int, n.tmod 10007 = m ∧ -10007 < m ∧ m < 10007 ∧ ((m < 0 ∧ m + 10007 = n % 10007) ∨ (¬ m < 0 ∧ m = n % 10007)) := by
  refine ⟨_, tmod_neg h, ?_⟩
  omega

set_option maxRecDepth 100000 in
set_option maxHeartbeats 400000 in
theorem rest_any (x bm : Nat) (n : Int) (w : World) (hx : W x n) (hn : -1000000 ≤ n ∧ n ≤ 1000000) (hc : w.cell? ⟨bm, 0, none⟩ = some (.int .i64 10007)) :
    Calls Try.prog 26 #[.float .f64 x, .pointer (some ⟨bm, 0, none⟩)] w fun e w' => e = .returned (.float .f64 (fl (n % 10007))) ∧ w = w' := by
  have c1 : ∀ w, (convert 22 3 (.float .f64 x)).run Try.prog w = .ok (.int .i64 n) w := fun w => run_convert_float_int w 22 3 .f64 .i64 x n (by rw [Try.underlying22]; rfl) Try.underlying3 (hx.toInt (by omega))
  have c2 : ∀ w n, (convert 3 22 (.int .i64 n)).run Try.prog w = .ok (.float .f64 (floatOfInt .f64 n)) w := fun w n => run_convert_int_float w 3 22 .i64 .f64 n (by rw [Try.underlying3]; rfl) Try.underlying22
  by_cases h0 : 0 ≤ n
  · go_enter Try.func26, Try.ntmps26
    go_wp2_with (simp only [c1, c2])
    all_goals
      go_ret
      exact ⟨rfl, rfl⟩
  · obtain ⟨m, hm, m0, m1, ⟨h1, hf⟩ | ⟨h1, hf⟩⟩ := rest_neg (show n < 0 by omega)
    · have Hf := Lib.hid hf
      clear hf
      go_enter Try.func26, Try.ntmps26
      go_wp2_with (simp only [c1, c2])
      all_goals
        go_ret
        exact ⟨by rw [← Hf.out]; rfl, rfl⟩
    · have Hf := Lib.hid hf
      clear hf
      go_enter Try.func26, Try.ntmps26
      go_wp2_with (simp only [c1, c2])
      all_goals
        go_ret
        exact ⟨by rw [← Hf.out]; rfl, rfl⟩

/-- restBy's closure, and what it has captured. -/
def restV (bm : Nat) : Value := .func (.func 26) #[] #[.pointer (some ⟨bm, 0, none⟩)]
def RestOut (w : World) (e : Ending) (w' : World) : Prop := e = .returned (restV w.heap.size) ∧ Boxed w' w.heap.size 3 (.int .i64 10007) ∧ w'.heap.size = w.heap.size + 1 ∧ Below w.heap.size w w'

set_option maxRecDepth 100000 in
set_option maxHeartbeats 400000 in
theorem restBy_any (w : World) : Calls Try.prog 24 #[.int .i64 10007] w (RestOut w) := by
  go_enter Try.func24, Try.ntmps24
  go_wp2
  go_ret
  exact ⟨rfl, Boxed.new w _ _, by simp, (Below.refl _ w).alloc (Nat.le_refl _) _⟩

theorem three_W : W 4613937818241073152 3 := by
  have h := W.fl (n := 3) (by decide)
  have e : fl 3 = 4613937818241073152 := by decide +kernel
  rwa [e] at h
theorem five_W : W 4617315517961601024 5 := by
  have h := W.fl (n := 5) (by decide)
  have e : fl 5 = 4617315517961601024 := by decide +kernel
  rwa [e] at h
theorem one_W : W 4607182418800017408 1 := by
  have h := W.fl (n := 1) (by decide)
  have e : fl 1 = 4607182418800017408 := by decide +kernel
  rwa [e] at h

set_option maxRecDepth 100000 in
set_option maxHeartbeats 400000 in
theorem step_any {x y bm : Nat} {p : Int × Int} {c : Int} (w : World) (hp : Pt x y p) (hb : 0 ≤ c ∧ c ≤ 255) (hc : w.cell? ⟨bm, 0, none⟩ = some (.int .i64 10007)) :
    Calls Try.prog 23 #[.complex .f64 x y, .int .u8 c, restV bm] w fun e w' => e = .returned (.complex .f64 (fl (nextP p c).1) (fl (nextP p c).2)) ∧ w = w' := by
  obtain ⟨hx, hy, ⟨a0, a1⟩, b0, b1⟩ := hp
  have k53 : (2 : Nat) ^ 53 = 9007199254740992 := rfl
  obtain ⟨u, v, h1, hu, hv⟩ := hx.cmul hy three_W five_W (by rw [k53]; omega) (by rw [k53]; omega) (by rw [k53]; omega) (by rw [k53]; omega) (by rw [k53]; omega) (by rw [k53]; omega)
  obtain ⟨s, h2, hs⟩ := (W.fl (n := c) (by rw [k53]; omega)).add one_W (by rw [k53]; omega)
  obtain ⟨u', v', h3, hu', hv'⟩ := hu.cadd hv hs zero_W (by rw [k53]; omega) (by rw [k53]; omega)
  have r1 := fun w => run_complex_mul (P := Try.prog) w 27 _ _ _ _ _ _ h1
  have r2 := fun w => run_float_arith (P := Try.prog) w .add 22 .f64 _ _ _ h2
  have r3 := fun w => run_complex_sum (P := Try.prog) w .add (.inl rfl) 27 .f64 _ _ _ _ _ _ h3
  have c1 : ∀ w, (convert 5 22 (.int .u8 c)).run Try.prog w = .ok (.float .f64 (fl c)) w := fun w => run_convert_int_float w 5 22 .u8 .f64 c (by rw [Try.underlying5]; rfl) Try.underlying22
  clear h1 h2 h3 k53 hx hy
  unfold restV
  go_enter Try.func23, Try.ntmps23
  go_wp2_with (simp only [c1, r1, r2, r3])
  refine (rest_any _ _ _ _ hu' (by omega) hc).mono ?_
  rintro e w' ⟨rfl, rfl⟩
  go_wp2_with fail
  refine (rest_any _ _ _ _ hv' (by omega) hc).mono ?_
  rintro e w' ⟨rfl, rfl⟩
  go_wp2_with fail
  go_ret
  exact ⟨rfl, rfl⟩

theorem pt_no_zero {x y : Nat} (h : ptB x y = false) (p : Int × Int) : ¬ Pt x y p := fun hp => by
  rw [hp.yes] at h
  cases h

set_option maxRecDepth 100000 in
set_option maxHeartbeats 400000 in
theorem next_yes {x y : Nat} {p : Int × Int} {c : Int} (w : World) (hp : Pt x y p) (hb : 0 ≤ c ∧ c ≤ 255) :
    Calls Try.prog 13 #[.complex .f64 x y, .int .u8 c] w fun e w' => e = .returned (.complex .f64 (fl (nextP p c).1) (fl (nextP p c).2)) ∧ Below w.heap.size w w' := by
  go_enter Try.func13, Try.ntmps13
  go_wp2_with fail
  refine (right_yes hp _).mono ?_
  rintro e w' ⟨rfl, rfl⟩
  go_wp2_with fail
  refine (restBy_any _).mono ?_
  rintro e w1 ⟨rfl, hbx, hsz, hB⟩
  go_wp2_with fail
  refine (step_any _ hp hb hbx.cell).mono ?_
  rintro e w' ⟨rfl, rfl⟩
  go_wp2_with fail
  go_ret
  exact ⟨rfl, hB⟩
set_option maxRecDepth 100000 in
set_option maxHeartbeats 400000 in
theorem next_no {x y : Nat} {c : Int} (w : World) (hp : ptB x y = false) :
    Calls Try.prog 13 #[.complex .f64 x y, .int .u8 c] w fun e w' => e = .returned (.complex .f64 0 0) ∧ Below w.heap.size w w' := by
  have Hp := Lib.hid hp
  clear hp
  go_enter Try.func13, Try.ntmps13
  go_wp2_with fail
  refine (right_no Hp.out _).mono ?_
  rintro e w' ⟨rfl, rfl⟩
  go_wp2_with fail
  go_ret
  exact ⟨rfl, Below.refl _ _⟩

end Go.Proofs.Ythlngicfcmiedaa
