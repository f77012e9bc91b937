/-
  gauss.inside, gauss.Right, gauss.part: their contracts.
-/
import Derived.Test.YthlngicfcmiedaaBase
import Derived.Test.YthlngicfcmiedaaVal
import Derived.Test.YthlngicfcmiedaaPts
import Derived.WalkLawsBesides
import Derived.Outline
namespace Go.Proofs.Ythlngicfcmiedaa
open Go.RowKit

theorem side_W : W 4666727020758040576 10007 := by
  have h := W.fl (n := 10007) (by decide)
  have e : fl 10007 = 4666727020758040576 := by decide +kernel
  rwa [e] at h

/-- May it be a point's part? -/
def inB (x : Nat) : Bool := geB x && ltB x 4666727020758040576 && (match floatToIntVal .f64 x .i64 with | some t => FloatKind.f64.format.order x (fl t) == some .eq | none => false)
theorem inB_yes {x : Nat} {n : Int} (h : W x n) (hn : 0 ≤ n ∧ n ≤ 10006) : inB x = true := by
  unfold inB
  rw [h.ge hn.1, h.lt side_W (by omega), h.toInt (by omega)]
  simp only [Bool.and_true]
  rw [h.eq (W.fl (by omega))]
  simp
theorem inB_of {x : Nat} (h : inB x = true) : ∃ n, W x n ∧ 0 ≤ n ∧ n ≤ 10006 := by
  unfold inB at h
  rw [Bool.and_eq_true, Bool.and_eq_true] at h
  obtain ⟨⟨h1, h2⟩, h3⟩ := h
  obtain ⟨t, t0, t1, ht, hw⟩ := inside_val side_W (by decide) h1 h2
  rw [ht] at h3
  exact ⟨t, hw h3, t0, by omega⟩

theorem ge_yes {x : Nat} (h : geB x = true) : (FloatKind.f64.format.order x 0 = some .gt) ∨ FloatKind.f64.format.order x 0 = some .eq := by
  unfold geB at h
  simpa using h
theorem ge_no {x : Nat} (h : geB x = false) : (FloatKind.f64.format.order x 0 = some .lt) ∨ FloatKind.f64.format.order x 0 = none := by
  unfold geB at h
  cases he : FloatKind.f64.format.order x 0 with
  | none => exact .inr rfl
  | some o => cases o <;> rw [he] at h <;> simp at h ⊢
theorem lt_yes {x m : Nat} (h : ltB x m = true) : FloatKind.f64.format.order x m = some .lt := by
  unfold ltB at h
  simpa using h
theorem lt_no {x m : Nat} (h : ltB x m = false) : (FloatKind.f64.format.order x m == some .lt) = false := h

set_option maxRecDepth 100000 in
set_option maxHeartbeats 400000 in
theorem inside_any (x : Nat) (w : World) :
    Calls Try.prog 21 #[.float .f64 x] w fun e w' => e = .returned (.bool (inB x)) ∧ w = w' := by
  cases h1 : geB x
  · have Hf : Hid (inB x = false) := by unfold inB; rw [h1]; rfl
    rcases ge_no h1 with h | h
    all_goals
      clear h1
      go_enter Try.func21, Try.ntmps21
      go_wp2
      go_ret
      exact ⟨ret_bool (by rw [Hf.out]), rfl⟩
  · cases h2 : ltB x 4666727020758040576
    · have Hf : Hid (inB x = false) := by unfold inB; rw [h1, h2]; rfl
      have h3 := lt_no h2
      rcases ge_yes h1 with h | h
      all_goals
        clear h1 h2
        go_enter Try.func21, Try.ntmps21
        go_wp2
        go_ret
        exact ⟨ret_bool (by rw [Hf.out]), rfl⟩
    · obtain ⟨t, t0, t1, ht, _⟩ := inside_val side_W (by decide) h1 h2
      have Hf : Hid (inB x = (FloatKind.f64.format.order x (fl t) == some .eq)) := by unfold inB; rw [h1, h2, ht]; rfl
      have hc : ∀ w, (convert 22 3 (.float .f64 x)).run Try.prog w = .ok (.int .i64 t) w := fun w => run_convert_float_int w 22 3 .f64 .i64 x t (by rw [Try.underlying22]; rfl) Try.underlying3 ht
      have h3 := lt_yes h2
      rcases ge_yes h1 with h | h
      all_goals
        clear h1 h2 ht
        go_enter Try.func21, Try.ntmps21
        go_wp2_with (simp only [hc])
        all_goals
          go_ret
          exact ⟨ret_bool (by rw [Hf.out]; rfl), rfl⟩

/-- A number of two whole parts that is a point. -/
structure Pt (x y : Nat) (p : Int × Int) : Prop where
  re : W x p.1
  im : W y p.2
  ok : InP p
def ptB (x y : Nat) : Bool := inB x && inB y
theorem Pt.yes {x y : Nat} {p : Int × Int} (h : Pt x y p) : ptB x y = true := by
  unfold ptB
  rw [inB_yes h.re h.ok.1, inB_yes h.im h.ok.2]
  rfl
theorem Pt.of {x y : Nat} (h : ptB x y = true) : ∃ p, Pt x y p := by
  unfold ptB at h
  rw [Bool.and_eq_true] at h
  obtain ⟨n, h1, h2⟩ := inB_of h.1
  obtain ⟨m, h3, h4⟩ := inB_of h.2
  exact ⟨(n, m), h1, h3, h2, h4⟩
theorem Pt.fl {p : Int × Int} (h : InP p) : Pt (fl p.1) (fl p.2) p := ⟨W.fl (by have := h.1; omega), W.fl (by have := h.2; omega), h⟩
theorem Pt.zero : Pt 0 0 (0, 0) := ⟨zero_W, zero_W, by unfold InP; simp⟩

set_option maxRecDepth 100000 in
set_option maxHeartbeats 400000 in
theorem right_any (x y : Nat) (w : World) :
    Calls Try.prog 11 #[.complex .f64 x y] w fun e w' => e = .returned (.bool (ptB x y)) ∧ w = w' := by
  cases h1 : inB x
  · have Hf : Hid (ptB x y = false) := by unfold ptB; rw [h1]; rfl
    have H1 := Lib.hid h1
    clear h1
    go_enter Try.func11, Try.ntmps11
    go_wp2_with (go_at_call 21; refine (inside_any _ _).mono ?_; rintro e w' ⟨rfl, rfl⟩; rw [H1.out])
    go_ret
    exact ⟨ret_bool (by rw [Hf.out]), rfl⟩
  · have Hf : Hid (ptB x y = inB y) := by unfold ptB; rw [h1]; rfl
    have H1 := Lib.hid h1
    clear h1
    go_enter Try.func11, Try.ntmps11
    go_wp2_with fail
    refine (inside_any _ _).mono ?_
    rintro e w' ⟨rfl, rfl⟩
    rw [H1.out]
    go_wp2_with fail
    refine (inside_any _ _).mono ?_
    rintro e w' ⟨rfl, rfl⟩
    go_wp2_with fail
    go_ret
    exact ⟨ret_bool (by rw [Hf.out]), rfl⟩
theorem right_yes {x y : Nat} {p : Int × Int} (h : Pt x y p) (w : World) :
    Calls Try.prog 11 #[.complex .f64 x y] w fun e w' => e = .returned (.bool true) ∧ w = w' := by
  have := right_any x y w
  rwa [h.yes] at this
theorem right_no {x y : Nat} (h : ptB x y = false) (w : World) :
    Calls Try.prog 11 #[.complex .f64 x y] w fun e w' => e = .returned (.bool false) ∧ w = w' := by
  have := right_any x y w
  rwa [h] at this

theorem fl_256 : fl 256 = 4643211215818981376 := by decide +kernel
set_option maxRecDepth 100000 in
set_option maxHeartbeats 400000 in
theorem part_any (h l : Int) (w : World) (hh : 0 ≤ h ∧ h ≤ 255) (hl : 0 ≤ l ∧ l ≤ 255) :
    Calls Try.prog 20 #[.int .u8 h, .int .u8 l] w fun e w' => e = .returned (.float .f64 (fl (h * 256 + l))) ∧ w = w' := by
  have h1 : floatBits .mul .f64 (floatOfInt .f64 h) 4643211215818981376 = some (fl (h * 256)) := by
    rw [← fl_256]
    exact fl_mul (by omega) (by omega) (by omega) (by omega)
  have h2 : floatBits .add .f64 (fl (h * 256)) (floatOfInt .f64 l) = some (fl (h * 256 + l)) := fl_add (by omega) (by omega) (by omega)
  have r1 := fun w => run_float_arith (P := Try.prog) w .mul 22 .f64 _ _ _ h1
  have r2 := fun w => run_float_arith (P := Try.prog) w .add 22 .f64 _ _ _ h2
  have c1 : ∀ w n, (convert 5 22 (.int .u8 n)).run Try.prog w = .ok (.float .f64 (floatOfInt .f64 n)) w := fun w n => run_convert_int_float w 5 22 .u8 .f64 n (by rw [Try.underlying5]; rfl) Try.underlying22
  clear h1 h2
  go_enter Try.func20, Try.ntmps20
  go_wp2_with (simp only [c1, r1, r2])
  go_ret
  exact ⟨rfl, rfl⟩

end Go.Proofs.Ythlngicfcmiedaa
