/-
  moultref02: part, Right, Next, Bytes, Of: their contracts.
-/
import Derived.Test.YthlngicfcmiedaaBytes
namespace Go.Proofs.Ythlngicfcmiedaa
open Go.RowKit

theorem inB_no {x : Nat} (h : inB x = false) {n : Int} (hw : W x n) (hn : 0 ≤ n ∧ n ≤ 10006) : False := by
  rw [inB_yes hw hn] at h
  cases h

theorem int_eq_turned (a b : Int) : (compare a b == Ordering.eq) = (compare b a == Ordering.eq) := by
  rw [compare_eq_int, compare_eq_int, decide_eq_decide]
  exact eq_comm
theorem some_eq_eq (o : Ordering) : (some o == some Ordering.eq) = (o == Ordering.eq) := by cases o <;> rfl
open Ieee in
/-- '==' the other way about. -/
theorem eq_turned (x y : Nat) : (FloatKind.f64.format.order x y == some .eq) = (FloatKind.f64.format.order y x == some .eq) := by
  show ((double.read x).order (double.read y) == some .eq) = ((double.read y).order (double.read x) == some .eq)
  generalize double.read x = d
  generalize double.read y = e
  cases d with
  | nan s f => cases e <;> rfl
  | infinity s =>
    cases e with
    | nan _ _ => rfl
    | infinity t => cases s <;> cases t <;> rfl
    | number t m i => cases s <;> rfl
  | number s m i =>
    cases e with
    | nan _ _ => rfl
    | infinity t => cases t <;> rfl
    | number t n j =>
      simp only [Datum.order, some_eq_eq]
      rw [int_eq_turned, show min j i = min i j from Int.min_comm j i]

/-- What the document's part answers: the number, and whether it is one. -/
def PartOut (x : Nat) (e : Ending) : Prop := ∃ t : Int, e = .returned (.tuple #[.int .i64 t, .bool (inB x)]) ∧ (inB x = true → W x t ∧ 0 ≤ t ∧ t ≤ 10006)

set_option maxRecDepth 100000 in
set_option maxHeartbeats 400000 in
theorem rpart_any (x : Nat) (w : World) :
    Calls Try.prog 22 #[.float .f64 x] w fun e w' => PartOut x e ∧ w = w' := by
  cases h1 : geB x
  · have Hf : Hid (inB x = false) := by unfold inB; rw [h1]; rfl
    rcases ge_no h1 with h | h
    all_goals
      clear h1
      go_enter Try.func22, Try.ntmps22
      go_wp2
      go_ret2
      exact ⟨⟨0, by rw [Hf.out]; rfl, fun h => by rw [Hf.out] at h; cases h⟩, rfl⟩
  · cases h2 : ltB x 4666727020758040576
    · have Hf : Hid (inB x = false) := by unfold inB; rw [h1, h2]; rfl
      have h3 := lt_no h2
      rcases ge_yes h1 with h | h
      all_goals
        clear h1 h2
        go_enter Try.func22, Try.ntmps22
        go_wp2
        go_ret2
        exact ⟨⟨0, by rw [Hf.out]; rfl, fun h => by rw [Hf.out] at h; cases h⟩, rfl⟩
    · obtain ⟨t, t0, t1, ht, hw⟩ := inside_val side_W (by decide) h1 h2
      have Hw := Lib.hid hw
      clear hw
      have Hf : Hid (inB x = (FloatKind.f64.format.order x (fl t) == some .eq)) := by unfold inB; rw [h1, h2, ht]; rfl
      have hc : ∀ w, (convert 22 3 (.float .f64 x)).run Try.prog w = .ok (.int .i64 t) w := fun w => run_convert_float_int w 22 3 .f64 .i64 x t (by rw [Try.underlying22]; rfl) Try.underlying3 ht
      have h3 := lt_yes h2
      -- '==' the other way about
      have Hs : Hid ((FloatKind.f64.format.order (fl t) x == some .eq) = (FloatKind.f64.format.order x (fl t) == some .eq)) := Lib.hid (eq_turned (fl t) x)
      rcases ge_yes h1 with h | h
      all_goals
        clear h1 h2 ht
        go_enter Try.func22, Try.ntmps22
        go_wp2
        go_ret2
        refine ⟨⟨t, ?_, fun h => ?_⟩, rfl⟩
        · rw [Hf.out, ← Hs.out]; rfl
        · rw [Hf.out] at h
          exact ⟨Hw.out h, t0, by omega⟩

theorem rpart_yes {x : Nat} {n : Int} (w : World) (hx : W x n) (hn : 0 ≤ n ∧ n ≤ 10006) :
    Calls Try.prog 22 #[.float .f64 x] w fun e w' => e = .returned (.tuple #[.int .i64 n, .bool true]) ∧ w = w' :=
  (rpart_any x w).mono fun e w' ⟨⟨t, he, ht⟩, hw⟩ => by
    rw [inB_yes hx hn] at he
    obtain rfl := (ht (inB_yes hx hn)).1.uniq hx
    exact ⟨he, hw⟩
theorem rpart_no {x : Nat} (w : World) (h : inB x = false) :
    Calls Try.prog 22 #[.float .f64 x] w fun e w' => (∃ t : Int, e = .returned (.tuple #[.int .i64 t, .bool false])) ∧ w = w' :=
  (rpart_any x w).mono fun e w' ⟨⟨t, he, _⟩, hw⟩ => by
    rw [h] at he
    exact ⟨⟨t, he⟩, hw⟩
theorem ptB_cases {x y : Nat} (h : ptB x y = false) : inB x = false ∨ ∃ n, W x n ∧ (0 ≤ n ∧ n ≤ 10006) ∧ inB y = false := by
  unfold ptB at h
  cases h1 : inB x
  · exact .inl rfl
  · obtain ⟨n, h2, h3⟩ := inB_of h1
    rw [h1] at h
    exact .inr ⟨n, h2, h3, by simpa using h⟩

set_option maxRecDepth 100000 in
set_option maxHeartbeats 400000 in
theorem rright_yes {x y : Nat} {p : Int × Int} (w : World) (hp : Pt x y p) :
    Calls Try.prog 12 #[.complex .f64 x y] w fun e w' => e = .returned (.bool true) ∧ w = w' := by
  go_enter Try.func12, Try.ntmps12
  go_wp2_with fail
  refine (rpart_yes _ hp.re hp.ok.1).mono ?_
  rintro e w' ⟨rfl, rfl⟩
  go_wp2_with fail
  refine (rpart_yes _ hp.im hp.ok.2).mono ?_
  rintro e w' ⟨rfl, rfl⟩
  go_wp2_with fail
  go_ret
  exact ⟨rfl, rfl⟩

set_option maxRecDepth 100000 in
set_option maxHeartbeats 400000 in
theorem rright_no {x y : Nat} (w : World) (h : ptB x y = false) :
    Calls Try.prog 12 #[.complex .f64 x y] w fun e w' => e = .returned (.bool false) ∧ w = w' := by
  rcases ptB_cases h with h1 | ⟨n, h1, h2, h3⟩
  · have H1 := Lib.hid h1
    clear h h1
    cases h2 : inB y
    · have H2 := Lib.hid h2
      clear h2
      go_enter Try.func12, Try.ntmps12
      go_wp2_with fail
      refine (rpart_no _ H1.out).mono ?_
      rintro e w' ⟨⟨t, rfl⟩, rfl⟩
      go_wp2_with fail
      refine (rpart_no _ H2.out).mono ?_
      rintro e w' ⟨⟨t, rfl⟩, rfl⟩
      go_wp2_with fail
      go_ret
      exact ⟨rfl, rfl⟩
    · obtain ⟨m, h3, h4⟩ := inB_of h2
      clear h2
      go_enter Try.func12, Try.ntmps12
      go_wp2_with fail
      refine (rpart_no _ H1.out).mono ?_
      rintro e w' ⟨⟨t, rfl⟩, rfl⟩
      go_wp2_with fail
      refine (rpart_yes _ h3 h4).mono ?_
      rintro e w' ⟨rfl, rfl⟩
      go_wp2_with fail
      go_ret
      exact ⟨rfl, rfl⟩
  · have H3 := Lib.hid h3
    clear h h3
    go_enter Try.func12, Try.ntmps12
    go_wp2_with fail
    refine (rpart_yes _ h1 h2).mono ?_
    rintro e w' ⟨rfl, rfl⟩
    go_wp2_with fail
    refine (rpart_no _ H3.out).mono ?_
    rintro e w' ⟨⟨t, rfl⟩, rfl⟩
    go_wp2_with fail
    go_ret
    exact ⟨rfl, rfl⟩

theorem rnextP (p : Int × Int) (c : Int) : ((3 * p.1 - 5 * p.2 + c + 1) % 10007, (5 * p.1 + 3 * p.2) % 10007) = nextP p c := by
  unfold nextP
  exact Prod.ext (by simp only; omega) (by simp only; omega)
theorem rest_neg_le {n m : Int} (h : n < 0) (hm : n.tmod 10007 = m) : m ≤ 0 := by
  rw [tmod_neg h] at hm
  omega
theorem rest_neg_up {n m : Int} (hf : (m < 0 ∧ m + 10007 = n % 10007) ∨ (¬ m < 0 ∧ m = n % 10007)) : m % 10007 = n % 10007 := by omega

set_option maxRecDepth 100000 in
set_option maxHeartbeats 400000 in
theorem rnext_yes {x y : Nat} {p : Int × Int} {c : Int} (w : World) (hp : Pt x y p) (hb : 0 ≤ c ∧ c ≤ 255) :
    Calls Try.prog 14 #[.complex .f64 x y, .int .u8 c] w fun e w' => e = .returned (.complex .f64 (fl (nextP p c).1) (fl (nextP p c).2)) ∧ w = w' := by
  obtain ⟨hx, hy, ⟨a0, a1⟩, b0, b1⟩ := hp
  have Hf := Lib.hid (rnextP p c)
  by_cases h0 : 0 ≤ 3 * p.1 - 5 * p.2 + c + 1
  · go_enter Try.func14, Try.ntmps14
    go_wp2_with fail
    refine (rpart_yes _ hx ⟨a0, a1⟩).mono ?_
    rintro e w' ⟨rfl, rfl⟩
    go_wp2_with fail
    refine (rpart_yes _ hy ⟨b0, b1⟩).mono ?_
    rintro e w' ⟨rfl, rfl⟩
    go_wp2_with fail
    go_ret
    exact ⟨by rw [← Hf.out]; rfl, rfl⟩
  · obtain ⟨m, hm, m0, m1, hf⟩ := rest_neg (show 3 * p.1 - 5 * p.2 + c + 1 < 0 by omega)
    have Hm := Lib.hid (rest_neg_up hf)
    have m2 := rest_neg_le (by omega) hm
    clear hf
    go_enter Try.func14, Try.ntmps14
    go_wp2_with fail
    refine (rpart_yes _ hx ⟨a0, a1⟩).mono ?_
    rintro e w' ⟨rfl, rfl⟩
    go_wp2_with fail
    refine (rpart_yes _ hy ⟨b0, b1⟩).mono ?_
    rintro e w' ⟨rfl, rfl⟩
    go_wp2_with fail
    go_ret
    exact ⟨by rw [← Hf.out]; simp only [← Hm.out]; rfl, rfl⟩


set_option maxRecDepth 100000 in
set_option maxHeartbeats 400000 in
theorem rnext_no {x y : Nat} {c : Int} (w : World) (h : ptB x y = false) :
    Calls Try.prog 14 #[.complex .f64 x y, .int .u8 c] w fun e w' => e = .returned (.complex .f64 0 0) ∧ w = w' := by
  rcases ptB_cases h with h1 | ⟨n, h1, h2, h3⟩
  · have H1 := Lib.hid h1
    clear h h1
    cases h2 : inB y
    · have H2 := Lib.hid h2
      clear h2
      go_enter Try.func14, Try.ntmps14
      go_wp2_with fail
      refine (rpart_no _ H1.out).mono ?_
      rintro e w' ⟨⟨t, rfl⟩, rfl⟩
      go_wp2_with fail
      refine (rpart_no _ H2.out).mono ?_
      rintro e w' ⟨⟨t, rfl⟩, rfl⟩
      go_wp2_with fail
      go_ret
      exact ⟨rfl, rfl⟩
    · obtain ⟨m, h3, h4⟩ := inB_of h2
      clear h2
      go_enter Try.func14, Try.ntmps14
      go_wp2_with fail
      refine (rpart_no _ H1.out).mono ?_
      rintro e w' ⟨⟨t, rfl⟩, rfl⟩
      go_wp2_with fail
      refine (rpart_yes _ h3 h4).mono ?_
      rintro e w' ⟨rfl, rfl⟩
      go_wp2_with fail
      go_ret
      exact ⟨rfl, rfl⟩
  · have H3 := Lib.hid h3
    clear h h3
    go_enter Try.func14, Try.ntmps14
    go_wp2_with fail
    refine (rpart_yes _ h1 h2).mono ?_
    rintro e w' ⟨rfl, rfl⟩
    go_wp2_with fail
    refine (rpart_no _ H3.out).mono ?_
    rintro e w' ⟨⟨t, rfl⟩, rfl⟩
    go_wp2_with fail
    go_ret
    exact ⟨rfl, rfl⟩

set_option maxRecDepth 100000 in
set_option maxHeartbeats 400000 in
theorem rbytes_no {x y : Nat} (w : World) (h : ptB x y = false) :
    Calls Try.prog 18 #[.complex .f64 x y] w fun e w' => e = .returned (agg4 [0, 0, 0, 0]) ∧ Below w.heap.size w w' := by
  rcases ptB_cases h with h1 | ⟨n, h1, h2, h3⟩
  · have H1 := Lib.hid h1
    clear h h1
    cases h2 : inB y
    · have H2 := Lib.hid h2
      clear h2
      go_enter Try.func18, Try.ntmps18
      go_wp2_with fail
      refine (rpart_no _ H1.out).mono ?_
      rintro e w' ⟨⟨t, rfl⟩, rfl⟩
      go_wp2_with fail
      refine (rpart_no _ H2.out).mono ?_
      rintro e w' ⟨⟨t, rfl⟩, rfl⟩
      go_wp2_with fail
      exact bodyPost_ret (v := agg4 [0, 0, 0, 0]) (by simp [results, Try.results18, go_sem]; rfl) rfl ⟨rfl, (Below.refl _ _).alloc (Nat.le_refl _) _⟩
    · obtain ⟨m, h3, h4⟩ := inB_of h2
      clear h2
      go_enter Try.func18, Try.ntmps18
      go_wp2_with fail
      refine (rpart_no _ H1.out).mono ?_
      rintro e w' ⟨⟨t, rfl⟩, rfl⟩
      go_wp2_with fail
      refine (rpart_yes _ h3 h4).mono ?_
      rintro e w' ⟨rfl, rfl⟩
      go_wp2_with fail
      exact bodyPost_ret (v := agg4 [0, 0, 0, 0]) (by simp [results, Try.results18, go_sem]; rfl) rfl ⟨rfl, (Below.refl _ _).alloc (Nat.le_refl _) _⟩
  · have H3 := Lib.hid h3
    clear h h3
    go_enter Try.func18, Try.ntmps18
    go_wp2_with fail
    refine (rpart_yes _ h1 h2).mono ?_
    rintro e w' ⟨rfl, rfl⟩
    go_wp2_with fail
    refine (rpart_no _ H3.out).mono ?_
    rintro e w' ⟨⟨t, rfl⟩, rfl⟩
    go_wp2_with fail
    exact bodyPost_ret (v := agg4 [0, 0, 0, 0]) (by simp [results, Try.results18, go_sem]; rfl) rfl ⟨rfl, (Below.refl _ _).alloc (Nat.le_refl _) _⟩

set_option maxRecDepth 100000 in
set_option maxHeartbeats 400000 in
theorem rbytes_yes {x y : Nat} {p : Int × Int} (w : World) (hp : Pt x y p) :
    Calls Try.prog 18 #[.complex .f64 x y] w fun e w' => e = .returned (agg4 (bytesP p)) ∧ Below w.heap.size w w' := by
  obtain ⟨hx, hy, ⟨a0, a1⟩, b0, b1⟩ := hp
  go_enter Try.func18, Try.ntmps18
  go_wp2_with fail
  refine (rpart_yes _ hx ⟨a0, a1⟩).mono ?_
  rintro e w' ⟨rfl, rfl⟩
  go_wp2_with fail
  refine (rpart_yes _ hy ⟨b0, b1⟩).mono ?_
  rintro e w' ⟨rfl, rfl⟩
  go_wp2_with fail
  exact bodyPost_ret (v := agg4 (bytesP p)) (by simp [results, Try.results18, go_sem]; trace_state; rfl) rfl ⟨rfl, (Below.refl _ _).alloc (Nat.le_refl _) _⟩

end Go.Proofs.Ythlngicfcmiedaa
