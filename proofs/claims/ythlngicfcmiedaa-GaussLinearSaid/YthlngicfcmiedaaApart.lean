/-
  GaussApart's walk: it returns true, and turns nothing that lay.
-/
import Derived.Test.YthlngicfcmiedaaWakes
namespace Go.Proofs.Ythlngicfcmiedaa
open Go.RowKit

/-- The least and the greatest of four, as the built-ins tell them. -/
theorem min4_run {P : Program} (a b c d : Int) : ∃ m : Int, (∀ ts t w, (Builtin.min_ ts t #[.int .i64 a, .int .i64 b, .int .i64 c, .int .i64 d]).run P w = .ok (.int .i64 m) w) ∧ (m ≤ a ∧ m ≤ b ∧ m ≤ c ∧ m ≤ d) ∧ (m = a ∨ m = b ∨ m = c ∨ m = d) := by
  refine ⟨_, fun ts t w => by simp [Builtin.min_, Builtin.min2]; rfl, ?_⟩
  split <;> split <;> split <;> omega
theorem max4_run {P : Program} (a b c d : Int) : ∃ m : Int, (∀ ts t w, (Builtin.max_ ts t #[.int .i64 a, .int .i64 b, .int .i64 c, .int .i64 d]).run P w = .ok (.int .i64 m) w) ∧ (a ≤ m ∧ b ≤ m ∧ c ≤ m ∧ d ≤ m) ∧ (m = a ∨ m = b ∨ m = c ∨ m = d) := by
  refine ⟨_, fun ts t w => by simp [Builtin.max_, Builtin.max2]; rfl, ?_⟩
  split <;> split <;> split <;> omega
def Low (a b c d : Int) : Prop := (0 ≤ a ∧ a ≤ 10006) ∧ (0 ≤ b ∧ b ≤ 10006) ∧ (0 ≤ c ∧ c ≤ 10006) ∧ 0 ≤ d ∧ d ≤ 10006
theorem min4_in {P : Program} {a b c d : Int} (h : Low a b c d) : ∃ m : Int, (∀ ts t w, (Builtin.min_ ts t #[.int .i64 a, .int .i64 b, .int .i64 c, .int .i64 d]).run P w = .ok (.int .i64 m) w) ∧ 0 ≤ m := by
  obtain ⟨m, h1, h2, h3⟩ := min4_run (P := P) a b c d
  obtain ⟨a1, b1, c1, d1⟩ := h
  exact ⟨m, h1, by omega⟩
theorem max4_in {P : Program} {a b c d : Int} (h : Low a b c d) : ∃ m : Int, (∀ ts t w, (Builtin.max_ ts t #[.int .i64 a, .int .i64 b, .int .i64 c, .int .i64 d]).run P w = .ok (.int .i64 m) w) ∧ m ≤ 10006 := by
  obtain ⟨m, h1, h2, h3⟩ := max4_run (P := P) a b c d
  obtain ⟨a1, b1, c1, d1⟩ := h
  exact ⟨m, h1, by omega⟩

set_option maxRecDepth 100000 in
set_option maxHeartbeats 1000000 in
theorem apart_out (a b c d x y : Int) (w : World) (h : ¬ Low a b c d) :
    Calls Try.prog 4 #[.int .i64 a, .int .i64 b, .int .i64 c, .int .i64 d, .int .u8 x, .int .u8 y] w fun e w' => e = .returned (.bool true) ∧ Below w.heap.size w w' := by
  obtain ⟨m, hm, h2, h3⟩ := min4_run (P := Try.prog) a b c d
  obtain ⟨M, hM, h4, h5⟩ := max4_run (P := Try.prog) a b c d
  by_cases h0 : m < 0
  · clear h h2 h3 h4 h5 hM
    go_enter Try.func4, Try.ntmps4
    go_wp2_with fail
    refine (wakes_any w).mono ?_
    rintro e w' ⟨rfl, hb⟩
    go_wp2_with fail
    go_ret
    exact ⟨rfl, hb⟩
  · have h1 : 10006 < M := by
      unfold Low at h
      omega
    clear h h2 h3 h4 h5
    go_enter Try.func4, Try.ntmps4
    go_wp2_with fail
    refine (wakes_any w).mono ?_
    rintro e w' ⟨rfl, hb⟩
    go_wp2_with fail
    go_ret
    exact ⟨rfl, hb⟩

set_option maxRecDepth 100000 in
set_option maxHeartbeats 1000000 in
theorem apart_in (a b c d x y : Int) (w : World) (h : Low a b c d) (hx : 0 ≤ x ∧ x ≤ 255) (hy : 0 ≤ y ∧ y ≤ 255) :
    Calls Try.prog 4 #[.int .i64 a, .int .i64 b, .int .i64 c, .int .i64 d, .int .u8 x, .int .u8 y] w fun e w' => e = .returned (.bool true) ∧ Below w.heap.size w w' := by
  obtain ⟨m, hm, hm0⟩ := min4_in (P := Try.prog) h
  obtain ⟨M, hM, hM0⟩ := max4_in (P := Try.prog) h
  obtain ⟨ha, hb, hc, hd⟩ := h
  have hz : Pt (floatOfInt .f64 a) (floatOfInt .f64 b) (a, b) := Pt.fl (inP_mk ha.1 ha.2 hb.1 hb.2)
  have hw : Pt (floatOfInt .f64 c) (floatOfInt .f64 d) (c, d) := Pt.fl (inP_mk hc.1 hc.2 hd.1 hd.2)
  clear ha hb hc hd
  go_enter Try.func4, Try.ntmps4
  go_wp2_with fail
  refine (next_out _ hz hx).mono ?_
  rintro e w1 ⟨⟨x1, y1, rfl, p1⟩, hB⟩
  have hsz := hB.size
  go_wp2_with fail
  refine (next_out _ hz hy).mono ?_
  rintro e w2 ⟨⟨x2, y2, rfl, p2⟩, hb⟩
  replace hB : Below w.heap.size w w2 := hB.trans (hb.mono hsz)
  clear hb hsz
  have hsz := hB.size
  go_wp2_with fail
  refine (next_out _ hw hx).mono ?_
  rintro e w3 ⟨⟨x3, y3, rfl, p3⟩, hb⟩
  replace hB : Below w.heap.size w w3 := hB.trans (hb.mono hsz)
  clear hb hsz
  go_wp2_with fail
  refine (right_yes p1 _).mono ?_
  rintro e w' ⟨rfl, rfl⟩
  go_wp2_with fail
  refine (right_yes p2 _).mono ?_
  rintro e w' ⟨rfl, rfl⟩
  go_wp2_with fail
  refine (right_yes p3 _).mono ?_
  rintro e w' ⟨rfl, rfl⟩
  have hsz := hB.size
  have e1 : ((FloatKind.f64.format.order x1 x2 == some .eq) && (FloatKind.f64.format.order y1 y2 == some .eq)) = (x == y) := by
    rw [p1.same p2, Bool.eq_iff_iff, decide_eq_true_iff, beq_iff_eq]
    exact ⟨nextP_byte hx hy, fun e => by rw [e]⟩
  have e2 : ((FloatKind.f64.format.order x1 x3 == some .eq) && (FloatKind.f64.format.order y1 y3 == some .eq)) = ((FloatKind.f64.format.order (floatOfInt .f64 a) (floatOfInt .f64 c) == some .eq) && (FloatKind.f64.format.order (floatOfInt .f64 b) (floatOfInt .f64 d) == some .eq)) := by
    rw [p1.same p3, hz.same hw, Bool.eq_iff_iff, decide_eq_true_iff, decide_eq_true_iff]
    exact ⟨nextP_point hz.ok hw.ok, fun e => by rw [e]⟩
  go_wp2_with fail
  refine (wakes_any _).mono ?_
  rintro e w' ⟨rfl, hbw⟩
  go_wp2_with fail
  go_ret
  exact ⟨rfl, hB.trans (hbw.mono hsz)⟩

theorem apart_any (a b c d x y : Int) (w : World) (hx : (Lit.int .u8 x).wf = true) (hy : (Lit.int .u8 y).wf = true) :
    Calls Try.prog 4 #[.int .i64 a, .int .i64 b, .int .i64 c, .int .i64 d, .int .u8 x, .int .u8 y] w fun e w' => e = .returned (.bool true) ∧ Below w.heap.size w w' := by
  simp only [Lit.wf, Bool.and_eq_true, decide_eq_true_eq] at hx hy
  rcases Classical.em (Low a b c d) with h | h
  · exact apart_in a b c d x y w h hx hy
  · exact apart_out a b c d x y w h

end Go.Proofs.Ythlngicfcmiedaa
