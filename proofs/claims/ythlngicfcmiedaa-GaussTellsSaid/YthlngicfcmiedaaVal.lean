/-
  Floats of 64 bits whose value is a whole number, a nought of either sign: sums, products, order, what is cut; which floats lie in a range and are whole. No program is named here.
-/
import Derived.Test.YthlngicfcmiedaaFloatInt
namespace Go.Proofs.Ythlngicfcmiedaa
open Go Ieee

/-- A datum's value is the whole number n. -/
def Val (d : Datum) (n : Int) : Prop := ∃ (s : Bool) (k : Nat), d = .number s (n.natAbs * 2 ^ k) (-(k : Int)) ∧ (n ≠ 0 → s = decide (n < 0))
theorem Whole.val {d : Datum} {n : Int} (h : Whole d n) : Val d n := by
  obtain ⟨k, rfl⟩ := h
  exact ⟨_, k, rfl, fun _ => rfl⟩
theorem signed_val {s : Bool} {n : Int} (h : n ≠ 0 → s = decide (n < 0)) (k u : Nat) : signed s (n.natAbs * 2 ^ k) u = n * (2 ^ (k + u) : Nat) := by
  by_cases h0 : n = 0
  · subst h0
    unfold signed
    cases s <;> simp
  · rw [h h0]; exact signed_whole n k u
theorem sum_val {d e : Datum} {a b : Int} (ha : Val d a) (hb : Val e b) : ∃ f, d.sum e = some f ∧ Val f (a + b) := by
  obtain ⟨s, i, rfl, hs⟩ := ha
  obtain ⟨t, j, rfl, ht⟩ := hb
  have hbase : min (-(i : Int)) (-(j : Int)) = -((max i j : Nat) : Int) := by omega
  have e1 : i + (-(i : Int) - -((max i j : Nat) : Int)).toNat = max i j := by omega
  have e2 : j + (-(j : Int) - -((max i j : Nat) : Int)).toNat = max i j := by omega
  refine ⟨_, rfl, ?_⟩
  simp only [hbase, signed_val hs, signed_val ht, e1, e2, ← Int.add_mul]
  obtain ⟨h1, h2, h3⟩ := total_whole (a + b) (max i j)
  rw [h1]
  refine ⟨_, max i j, rfl, fun h0 => ?_⟩
  rw [if_neg (fun h => h0 (h2.1 h)), Bool.eq_iff_iff, decide_eq_true_iff, decide_eq_true_iff]
  exact h3
theorem opposite_val {d : Datum} {a : Int} (ha : Val d a) : Val d.opposite (-a) := by
  obtain ⟨s, i, rfl, hs⟩ := ha
  refine ⟨!s, i, ?_, fun h0 => ?_⟩
  · show Datum.number (!s) _ _ = _
    rw [Int.natAbs_neg]
  · rw [hs (by omega), Bool.eq_iff_iff]
    simp
    omega
theorem product_val {d e : Datum} {a b : Int} (ha : Val d a) (hb : Val e b) : ∃ f, d.product e = some f ∧ Val f (a * b) := by
  obtain ⟨s, i, rfl, hs⟩ := ha
  obtain ⟨t, j, rfl, ht⟩ := hb
  refine ⟨_, rfl, s ^^ t, i + j, ?_, fun h0 => ?_⟩
  · have e1 : a.natAbs * 2 ^ i * (b.natAbs * 2 ^ j) = (a * b).natAbs * 2 ^ (i + j) := by
      rw [Int.natAbs_mul, Nat.pow_add, Nat.mul_assoc, Nat.mul_assoc, Nat.mul_left_comm (2 ^ i)]
    have e2 : -(i : Int) + -(j : Int) = -((i + j : Nat) : Int) := by omega
    rw [e1, e2]
  · have ha0 : a ≠ 0 := fun h => h0 (by rw [h, Int.zero_mul])
    have hb0 : b ≠ 0 := fun h => h0 (by rw [h, Int.mul_zero])
    rw [hs ha0, ht hb0, Bool.eq_iff_iff]
    simp only [bne_iff_ne, ne_eq, decide_eq_decide, decide_eq_true_eq]
    by_cases ha : a < 0
    · by_cases hb : b < 0
      · have := Int.mul_pos_of_neg_of_neg ha hb
        omega
      · have := Int.mul_neg_of_neg_of_pos ha (show 0 < b by omega)
        omega
    · by_cases hb : b < 0
      · have := Int.mul_neg_of_pos_of_neg (show 0 < a by omega) hb
        omega
      · have := Int.mul_pos (show 0 < a by omega) (show 0 < b by omega)
        omega
theorem order_val {d e : Datum} {a b : Int} (ha : Val d a) (hb : Val e b) : d.order e = some (compare a b) := by
  obtain ⟨s, i, rfl, hs⟩ := ha
  obtain ⟨t, j, rfl, ht⟩ := hb
  have hbase : min (-(i : Int)) (-(j : Int)) = -((max i j : Nat) : Int) := by omega
  have e1 : i + (-(i : Int) - -((max i j : Nat) : Int)).toNat = max i j := by omega
  have e2 : j + (-(j : Int) - -((max i j : Nat) : Int)).toNat = max i j := by omega
  show some (compare _ _) = _
  simp only [hbase, signed_val hs, signed_val ht, e1, e2]
  have hp : (0 : Int) < ((2 ^ max i j : Nat) : Int) := Int.natCast_pos.2 (Nat.two_pow_pos _)
  congr 1
  simp only [compare, compareOfLessAndEq]
  have hlt : a * ((2 ^ max i j : Nat) : Int) < b * ((2 ^ max i j : Nat) : Int) ↔ a < b := Int.mul_lt_mul_right hp
  have he : a * ((2 ^ max i j : Nat) : Int) = b * ((2 ^ max i j : Nat) : Int) ↔ a = b := ⟨fun h => Int.eq_of_mul_eq_mul_right (by omega) h, fun h => by rw [h]⟩
  simp only [hlt, he]
theorem toInt_val {d : Datum} {a : Int} (ha : Val d a) (way : Toward) : d.toInt way = some a := by
  obtain ⟨s, i, rfl, hs⟩ := ha
  unfold Datum.toInt Datum.integral
  simp only
  have e1 : (-(i : Int)).toNat = 0 := by omega
  have e2 : (- -(i : Int)).toNat = i := by omega
  rw [e1, e2, Nat.shiftLeft_zero]
  have hc : way.cut s (a.natAbs * 2 ^ i) i = a.natAbs := by
    by_cases h0 : a.natAbs = 0
    · rw [h0, Nat.zero_mul]
      unfold Toward.cut
      cases way <;> simp
    · exact cut_exact _ _ _ _ (by rw [log2_mul _ _ h0]; omega)
  rw [hc]
  have := signed_val hs 0 0
  simp only [Nat.pow_zero, Nat.mul_one, Nat.add_zero] at this
  rw [this]
  simp
/-- What is written and read again has its value. -/
theorem write_val {d : Datum} {n : Int} (h : Val d n) (hn : n.natAbs < 2 ^ 53) : Val (double.read (double.write d)) n := by
  obtain ⟨s, k, rfl, hs⟩ := h
  by_cases h0 : n = 0
  · subst h0
    refine ⟨s, 1074, ?_, fun h => absurd rfl h⟩
    have e : double.write (.number s (Int.natAbs 0 * 2 ^ k) (-(k : Int))) = double.word s 0 := by
      show double.nearest _ _ _ = _
      unfold Format.nearest
      rw [if_pos (by simp)]
    rw [e]
    cases s
    · decide +kernel
    · decide +kernel
  · rw [hs h0, write_whole ⟨k, rfl⟩ hn]
    exact (read_fl hn).val

/-- A word's value is the whole number n. -/
def W (x : Nat) (n : Int) : Prop := Val (double.read x) n
theorem W.fl {n : Int} (hn : n.natAbs < 2 ^ 53) : W (fl n) n := (read_fl hn).val
theorem W.add {x y : Nat} {a b : Int} (hx : W x a) (hy : W y b) (hc : (a + b).natAbs < 2 ^ 53) : ∃ z, floatBits .add .f64 x y = some z ∧ W z (a + b) := by
  obtain ⟨f, h1, h2⟩ := sum_val hx hy
  exact ⟨_, by show Option.map _ ((double.read x).sum (double.read y)) = _; rw [h1]; rfl, write_val h2 hc⟩
theorem W.sub {x y : Nat} {a b : Int} (hx : W x a) (hy : W y b) (hc : (a - b).natAbs < 2 ^ 53) : ∃ z, floatBits .sub .f64 x y = some z ∧ W z (a - b) := by
  obtain ⟨f, h1, h2⟩ := sum_val hx (opposite_val hy)
  rw [← Int.sub_eq_add_neg] at h2
  exact ⟨_, by show Option.map _ ((double.read x).sum (double.read y).opposite) = _; rw [h1]; rfl, write_val h2 hc⟩
theorem W.mul {x y : Nat} {a b : Int} (hx : W x a) (hy : W y b) (hc : (a * b).natAbs < 2 ^ 53) : ∃ z, floatBits .mul .f64 x y = some z ∧ W z (a * b) := by
  obtain ⟨f, h1, h2⟩ := product_val hx hy
  exact ⟨_, by show Option.map _ ((double.read x).product (double.read y)) = _; rw [h1]; rfl, write_val h2 hc⟩
theorem W.order {x y : Nat} {a b : Int} (hx : W x a) (hy : W y b) : FloatKind.f64.format.order x y = some (compare a b) := order_val hx hy
theorem W.toInt {x : Nat} {a : Int} (hx : W x a) (ha : a.natAbs < 2 ^ 53) : floatToIntVal .f64 x .i64 = some a := by
  have h : (FloatKind.f64.decode x).toInt .zero = some a := toInt_val hx .zero
  unfold floatToIntVal
  rw [h]
  simp only
  rw [if_pos]
  have h1 : IntKind.i64.min = -9223372036854775808 := rfl
  have h2 : IntKind.i64.max = 9223372036854775807 := rfl
  rw [h1, h2]
  omega
theorem compare_eq_int (a b : Int) : (compare a b == Ordering.eq) = decide (a = b) := by
  rw [Bool.eq_iff_iff, beq_iff_eq, decide_eq_true_iff]
  exact Int.compare_eq_eq
/-- '==' of two numbers. -/
theorem W.eq {x y : Nat} {a b : Int} (hx : W x a) (hy : W y b) : (FloatKind.f64.format.order x y == some .eq) = decide (a = b) := by
  rw [hx.order hy, ← compare_eq_int]
  cases compare a b <;> rfl
theorem W.uniq {x : Nat} {a b : Int} (hx : W x a) (hy : W x b) : a = b := by
  have h1 := toInt_val hx .zero
  have h2 := toInt_val hy .zero
  rw [h1] at h2
  exact Option.some.inj h2

/-- A product by a number of two whole parts. -/
theorem W.cmul {x y u v : Nat} {a b c d : Int} (hx : W x a) (hy : W y b) (hu : W u c) (hv : W v d) (h1 : (a * c).natAbs < 2 ^ 53) (h2 : (b * d).natAbs < 2 ^ 53) (h3 : (a * c - b * d).natAbs < 2 ^ 53)
    (h4 : (a * d).natAbs < 2 ^ 53) (h5 : (b * c).natAbs < 2 ^ 53) (h6 : (a * d + b * c).natAbs < 2 ^ 53) : ∃ re im, cMulBits x y u v = some (re, im) ∧ W re (a * c - b * d) ∧ W im (a * d + b * c) := by
  obtain ⟨p, e1, p1⟩ := hx.mul hu h1
  obtain ⟨q, e2, q1⟩ := hy.mul hv h2
  obtain ⟨re, e3, r1⟩ := p1.sub q1 h3
  obtain ⟨s, e4, s1⟩ := hx.mul hv h4
  obtain ⟨t, e5, t1⟩ := hy.mul hu h5
  obtain ⟨im, e6, i1⟩ := s1.add t1 h6
  refine ⟨re, im, ?_, r1, i1⟩
  unfold cMulBits
  simp only [e1, e2, e3, e4, e5, e6, Option.bind_some]
theorem W.cadd {x y u v : Nat} {a b c d : Int} (hx : W x a) (hy : W y b) (hu : W u c) (hv : W v d) (h1 : (a + c).natAbs < 2 ^ 53) (h2 : (b + d).natAbs < 2 ^ 53) :
    ∃ re im, cSumBits .add .f64 x y u v = some (re, im) ∧ W re (a + c) ∧ W im (b + d) := by
  obtain ⟨p, e1, p1⟩ := hx.add hu h1
  obtain ⟨q, e2, q1⟩ := hy.add hv h2
  refine ⟨p, q, ?_, p1, q1⟩
  unfold cSumBits
  simp only [e1, e2, Option.bind_some]

/-! ### Which floats lie in a range, and are whole -/
theorem read_least {x : Nat} {s : Bool} {m : Nat} {e : Int} (h : double.read x = .number s m e) : -1074 ≤ e ∧ (0 < e → 2 ^ 52 ≤ m) := by
  unfold Format.read at h
  simp only at h
  have hlp : double.leastPlace = -1074 := rfl
  have hbn : double.binade = 2 ^ 52 := rfl
  split at h
  · injection h with h1 h2 h3
    rw [hlp] at h3
    omega
  · split at h
    · injection h with h1 h2 h3
      rw [hlp] at h3
      rw [hbn] at h2
      omega
    · split at h <;> cases h

/-- A float's tests: is it from 0 on, and below m? -/
def geB (x : Nat) : Bool := FloatKind.f64.format.order x 0 == some .gt || FloatKind.f64.format.order x 0 == some .eq
def ltB (x m : Nat) : Bool := FloatKind.f64.format.order x m == some .lt
theorem read_zero : double.read 0 = .number false 0 (-1074) := by decide +kernel
theorem val_zero (s : Bool) (k : Nat) : Val (.number s 0 (-(k : Int))) 0 := ⟨s, k, by rw [Int.natAbs_zero, Nat.zero_mul], fun h => absurd rfl h⟩
theorem zero_W : W 0 0 := by
  unfold W
  rw [read_zero]
  exact val_zero false 1074
theorem cut_zero (s : Bool) (m k : Nat) : Toward.zero.cut s m k = m / 2 ^ k := by
  unfold Toward.cut
  simp only [Bool.toNat_false, Nat.add_zero, Nat.shiftLeft_eq, Nat.one_mul]
  by_cases h : k ≤ m.log2 + 2
  · rw [Nat.min_eq_left h]
  · rw [Nat.min_eq_right (by omega)]
    have h1 : m < 2 ^ (m.log2 + 1) := Nat.lt_log2_self
    have h2 : 2 ^ (m.log2 + 1) ≤ 2 ^ (m.log2 + 2) := Nat.pow_le_pow_right (by omega) (by omega)
    have h3 : 2 ^ (m.log2 + 1) ≤ 2 ^ k := Nat.pow_le_pow_right (by omega) (by omega)
    rw [Nat.div_eq_of_lt (by omega), Nat.div_eq_of_lt (by omega)]

theorem compare_mul (a b : Int) {p : Int} (hp : 0 < p) : compare (a * p) (b * p) = compare a b := by
  simp only [compare, compareOfLessAndEq]
  have hlt : a * p < b * p ↔ a < b := Int.mul_lt_mul_right hp
  have he : a * p = b * p ↔ a = b := ⟨fun h => Int.eq_of_mul_eq_mul_right (by omega) h, fun h => by rw [h]⟩
  simp only [hlt, he]
theorem signed_add (s : Bool) (m u v : Nat) : signed s m (u + v) = signed s m u * ((2 ^ v : Nat) : Int) := by
  unfold signed
  simp only [Nat.shiftLeft_eq, Nat.pow_add, ← Nat.mul_assoc]
  cases s
  · simp
  · simp only [if_pos, Int.neg_mul]
    rw [Int.natCast_mul]
/-- A number against one whose value is whole, over whatever power of two serves. -/
theorem order_scaled {s : Bool} {m : Nat} {e : Int} {d : Datum} {n : Int} (hd : Val d n) (K : Nat) (hK : -(K : Int) ≤ e) :
    (Datum.number s m e).order d = some (compare (signed s m (e + K).toNat) (n * ((2 ^ K : Nat) : Int))) := by
  obtain ⟨t, k, rfl, ht⟩ := hd
  obtain ⟨B, hB⟩ : ∃ B : Nat, min e (-(k : Int)) = -(B : Int) := ⟨(-(min e (-(k : Int)))).toNat, by omega⟩
  show some (compare _ _) = _
  simp only [hB, signed_val ht]
  have e1 : k + (-(k : Int) - -(B : Int)).toNat = B := by omega
  rw [e1]
  have h1 := compare_mul (signed s m (e - -(B : Int)).toNat) (n * ((2 ^ B : Nat) : Int)) (p := ((2 ^ K : Nat) : Int)) (Int.natCast_pos.2 (Nat.two_pow_pos _))
  have h2 := compare_mul (signed s m (e + K).toNat) (n * ((2 ^ K : Nat) : Int)) (p := ((2 ^ B : Nat) : Int)) (Int.natCast_pos.2 (Nat.two_pow_pos _))
  rw [← h1, ← h2, ← signed_add, ← signed_add]
  have e2 : (e - -(B : Int)).toNat + K = (e + K).toNat + B := by omega
  have e3 : n * ((2 ^ B : Nat) : Int) * ((2 ^ K : Nat) : Int) = n * ((2 ^ K : Nat) : Int) * ((2 ^ B : Nat) : Int) := by
    rw [Int.mul_assoc, Int.mul_assoc, Int.mul_comm ((2 ^ B : Nat) : Int)]
  rw [e2, e3]

/-- Of one that lies there: the whole number that it is cut to; it is that one, or not. -/
theorem inside_val {x M : Nat} {N : Int} (hM : W M N) (hN : 0 ≤ N ∧ N < 2 ^ 52) (h1 : geB x = true) (h2 : ltB x M = true) :
    ∃ t : Int, 0 ≤ t ∧ t < N ∧ floatToIntVal .f64 x .i64 = some t ∧ ((FloatKind.f64.format.order x (fl t) == some .eq) = true → W x t) := by
  have hf : FloatKind.f64.format = double := rfl
  cases hx : double.read x with
  | nan s f =>
    exfalso
    unfold geB Format.order at h1
    rw [hf, hx] at h1
    simp [Datum.order] at h1
  | infinity s =>
    exfalso
    unfold geB Format.order at h1
    unfold ltB Format.order at h2
    rw [hf, hx, read_zero] at h1
    obtain ⟨u, k, hk, _⟩ := hM
    rw [hf, hx, hk] at h2
    cases s <;> simp [Datum.order] at h1 h2
  | number s m e =>
    obtain ⟨hl, hbig⟩ := read_least hx
    have ord : ∀ {b : Nat} {n : Int} (K : Nat), W b n → -(K : Int) ≤ e → FloatKind.f64.format.order x b = some (compare (signed s m (e + K).toNat) (n * ((2 ^ K : Nat) : Int))) := by
      intro b n K hb hK
      show (double.read x).order (double.read b) = _
      rw [hx]
      exact order_scaled hb K hK
    obtain ⟨K, hK0, hK1⟩ : ∃ K : Nat, -(K : Int) ≤ e ∧ ((K : Int) = -e ∨ (K = 0 ∧ 0 < e)) := by
      by_cases h : e ≤ 0
      · exact ⟨(-e).toNat, by omega, by omega⟩
      · exact ⟨0, by omega, by omega⟩
    obtain ⟨E, hE⟩ : ∃ E : Nat, (e + K).toNat = E := ⟨_, rfl⟩
    have hge : 0 ≤ signed s m E := by
      unfold geB at h1
      rw [ord K zero_W hK0, Int.zero_mul, hE] at h1
      by_cases hc : signed s m E < 0
      · rw [show compare (signed s m E) 0 = Ordering.lt from Int.compare_eq_lt.2 hc] at h1
        simp at h1
      · omega
    have hpow : 0 < 2 ^ E := Nat.two_pow_pos E
    have hmag : ∀ u, signed s m u = ((m * 2 ^ u : Nat) : Int) := by
      intro u
      unfold signed at hge ⊢
      simp only [Nat.shiftLeft_eq] at hge ⊢
      cases s
      · simp
      · simp only [if_pos] at hge ⊢
        have h3 : m * 2 ^ E = 0 := by omega
        have h4 : m = 0 := by
          rcases Nat.mul_eq_zero.1 h3 with h | h
          · exact h
          · omega
        rw [h4, Nat.zero_mul]
        rfl
    have hlt : ((m * 2 ^ E : Nat) : Int) < N * ((2 ^ K : Nat) : Int) := by
      unfold ltB at h2
      rw [ord K hM hK0, hE, hmag] at h2
      have h3 : compare ((m * 2 ^ E : Nat) : Int) (N * ((2 ^ K : Nat) : Int)) = .lt := by
        have := beq_iff_eq.1 h2
        exact Option.some.inj this
      exact Int.compare_eq_lt.1 h3
    rcases hK1 with hK1 | ⟨rfl, hpos⟩
    · have hE0 : E = 0 := by omega
      subst hE0
      rw [Nat.pow_zero, Nat.mul_one] at hlt
      obtain rfl : e = -(K : Int) := by omega
      have hP : 0 < 2 ^ K := Nat.two_pow_pos K
      obtain ⟨q, hq⟩ : ∃ q, m / 2 ^ K = q := ⟨_, rfl⟩
      have hdiv : q * 2 ^ K ≤ m := by rw [← hq]; exact Nat.div_mul_le_self _ _
      have htN : ((q : Nat) : Int) < N := by
        have h5 : ((q : Nat) : Int) * ((2 ^ K : Nat) : Int) < N * ((2 ^ K : Nat) : Int) := by
          rw [← Int.natCast_mul]
          omega
        exact (Int.mul_lt_mul_right (by omega)).1 h5
      refine ⟨((q : Nat) : Int), by omega, htN, ?_, fun h3 => ?_⟩
      · have h6 : (FloatKind.f64.decode x).toInt .zero = some ((q : Nat) : Int) := by
          show (double.read x).toInt .zero = _
          rw [hx]
          unfold Datum.toInt Datum.integral
          simp only
          have e1 : (-(K : Int)).toNat = 0 := by omega
          have e2 : (- -(K : Int)).toNat = K := by omega
          rw [e1, e2, Nat.shiftLeft_zero, cut_zero, hq]
          have h7 := hmag 0
          unfold signed at h7 ⊢
          simp only [Nat.shiftLeft_zero, Nat.pow_zero, Nat.mul_one] at h7 ⊢
          cases s
          · rfl
          · simp only [if_pos] at h7 ⊢
            have h8 : m = 0 := by omega
            rw [h8, Nat.zero_div] at hq
            rw [← hq]
            rfl
        unfold floatToIntVal
        rw [h6]
        simp only
        rw [if_pos]
        have h1 : IntKind.i64.min = -9223372036854775808 := rfl
        have h2 : IntKind.i64.max = 9223372036854775807 := rfl
        rw [h1, h2]
        have h9 : (2 : Int) ^ 52 = 4503599627370496 := rfl
        rw [h9] at hN
        omega
      · have hw : W (fl ((q : Nat) : Int)) ((q : Nat) : Int) := W.fl (by
          have h9 : (2 : Int) ^ 52 = 4503599627370496 := rfl
          have h10 : (2 : Nat) ^ 53 = 9007199254740992 := rfl
          rw [h9] at hN
          rw [h10]
          omega)
        rw [ord K hw hK0, hE, hmag, Nat.pow_zero, Nat.mul_one] at h3
        have h4 : compare (m : Int) (((q : Nat) : Int) * ((2 ^ K : Nat) : Int)) = .eq := Option.some.inj (beq_iff_eq.1 h3)
        have h5 := Int.compare_eq_eq.1 h4
        rw [← Int.natCast_mul] at h5
        have h6 : m = q * 2 ^ K := Int.ofNat.inj h5
        refine ⟨s, K, ?_, fun h0 => ?_⟩
        · rw [hx, Int.natAbs_natCast, ← h6]
        · cases s
          · symm
            rw [decide_eq_false_iff_not]
            omega
          · exfalso
            have h7 := hmag 0
            unfold signed at h7
            simp only [Nat.shiftLeft_zero, Nat.pow_zero, Nat.mul_one, if_pos] at h7
            have h8 : m = 0 := by omega
            rw [h8, Nat.zero_div] at hq
            rw [← hq] at h0
            exact h0 rfl
    · exfalso
      have h3 := hbig hpos
      have h4 : 2 ^ 52 * 1 ≤ m * 2 ^ E := Nat.mul_le_mul h3 hpow
      rw [Nat.pow_zero] at hlt
      have h9 : (2 : Int) ^ 52 = 4503599627370496 := rfl
      have h10 : (2 : Nat) ^ 52 = 4503599627370496 := rfl
      rw [h9] at hN
      rw [h10] at h4
      omega
/-- One whose value is whole, and lies there, passes. -/
theorem W.ge {x : Nat} {n : Int} (h : W x n) (hn : 0 ≤ n) : geB x = true := by
  unfold geB
  rw [h.order zero_W]
  by_cases h0 : n = 0
  · rw [show compare n 0 = Ordering.eq from Int.compare_eq_eq.2 h0]; rfl
  · rw [show compare n 0 = Ordering.gt from Int.compare_eq_gt.2 (by omega)]; rfl
theorem W.lt {x M : Nat} {n N : Int} (h : W x n) (hM : W M N) (hn : n < N) : ltB x M = true := by
  unfold ltB
  rw [h.order hM, show compare n N = Ordering.lt from Int.compare_eq_lt.2 hn]
  rfl

end Go.Proofs.Ythlngicfcmiedaa
