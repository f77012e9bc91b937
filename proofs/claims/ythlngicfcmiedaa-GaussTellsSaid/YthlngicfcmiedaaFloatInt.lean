/-
  Whole numbers as floats of 64 bits: sums, differences and products of small ones are exact; what is read, written, compared and cut. No program is named here.
-/
import Derived.Laws.ComplexArith
namespace Go.Proofs.Ythlngicfcmiedaa
open Go Ieee

/-- A datum is the whole number n (m * 2^(-k)); a nought is the one above. -/
def Whole (d : Datum) (n : Int) : Prop := ∃ k : Nat, d = .number (decide (n < 0)) (n.natAbs * 2 ^ k) (-(k : Int))

/-- The word of a whole number. -/
def fl (n : Int) : Nat := double.write (.number (decide (n < 0)) n.natAbs 0)

theorem cut_exact (neg : Bool) (way : Toward) (a k : Nat) (h : k ≤ (a * 2 ^ k).log2 + 2) : way.cut neg (a * 2 ^ k) k = a := by
  unfold Toward.cut
  rw [Nat.min_eq_left h, Nat.shiftLeft_eq, Nat.one_mul]
  have hp : 0 < 2 ^ k := Nat.two_pow_pos k
  have h1 : a * 2 ^ k / 2 ^ k = a := Nat.mul_div_cancel a hp
  have h2 : a * 2 ^ k % 2 ^ k = 0 := Nat.mul_mod_left a (2 ^ k)
  simp only [h1, h2]
  cases way
  · simp
  · simp
  · simp
  · simp
theorem log2_mul (m k : Nat) (hm : m ≠ 0) : (m * 2 ^ k).log2 = m.log2 + k := by
  have hp : 0 < 2 ^ k := Nat.two_pow_pos k
  have hne : m * 2 ^ k ≠ 0 := Nat.mul_ne_zero hm (by omega)
  have h1 : 2 ^ m.log2 ≤ m := Nat.log2_self_le hm
  have h2 : m < 2 ^ (m.log2 + 1) := Nat.lt_log2_self
  apply Nat.le_antisymm
  · have : (m * 2 ^ k).log2 < m.log2 + k + 1 := by
      rw [Nat.log2_lt hne, show m.log2 + k + 1 = (m.log2 + 1) + k by omega, Nat.pow_add]
      exact Nat.mul_lt_mul_of_pos_right h2 hp
    omega
  · rw [Nat.le_log2 hne, Nat.pow_add]
    exact Nat.mul_le_mul_right _ h1

/-- The significand, shifted up to its 53 digits. -/
theorem nearest_whole (s : Bool) (m k : Nat) (hm : m ≠ 0) (h53 : m < 2 ^ 53) :
    double.nearest s (m * 2 ^ k) (-(k : Int)) = double.word s ((m.log2 + 1022) * 2 ^ 52 + m * 2 ^ (52 - m.log2)) := by
  have hl : m.log2 ≤ 52 := by
    have := (Nat.log2_lt hm).2 h53
    omega
  have hp : 0 < 2 ^ k := Nat.two_pow_pos k
  have hne : m * 2 ^ k ≠ 0 := Nat.mul_ne_zero hm (by omega)
  unfold Format.nearest
  rw [if_neg hne]
  simp only [log2_mul m k hm]
  have hlast : max (-(k : Int) + ((m.log2 + k : Nat) : Int) - (double.fractionBits : Nat)) double.leastPlace = (m.log2 : Int) - 52 := by
    show max (-(k : Int) + ((m.log2 + k : Nat) : Int) - ((52 : Nat) : Int)) (-1074 : Int) = _
    omega
  rw [hlast]
  have hkept : Toward.even.cut s ((m * 2 ^ k) <<< (-(k : Int) - ((m.log2 : Int) - 52)).toNat) (((m.log2 : Int) - 52) - -(k : Int)).toNat = m * 2 ^ (52 - m.log2) := by
    by_cases hk : k ≤ 52 - m.log2
    · have e1 : (-(k : Int) - ((m.log2 : Int) - 52)).toNat = 52 - m.log2 - k := by omega
      have e2 : (((m.log2 : Int) - 52) - -(k : Int)).toNat = 0 := by omega
      rw [e1, e2, Nat.shiftLeft_eq, Nat.mul_assoc, ← Nat.pow_add, show k + (52 - m.log2 - k) = 52 - m.log2 by omega]
      have := cut_exact s .even (m * 2 ^ (52 - m.log2)) 0 (by omega)
      rwa [Nat.pow_zero, Nat.mul_one] at this
    · have e1 : (-(k : Int) - ((m.log2 : Int) - 52)).toNat = 0 := by omega
      have e2 : (((m.log2 : Int) - 52) - -(k : Int)).toNat = k - (52 - m.log2) := by omega
      rw [e1, e2, Nat.shiftLeft_zero]
      have e3 : m * 2 ^ k = (m * 2 ^ (52 - m.log2)) * 2 ^ (k - (52 - m.log2)) := by
        rw [Nat.mul_assoc, ← Nat.pow_add, show 52 - m.log2 + (k - (52 - m.log2)) = k by omega]
      rw [e3]
      refine cut_exact s .even _ _ ?_
      rw [← e3, log2_mul m k hm]
      omega
  rw [hkept]
  have e4 : ((m.log2 : Int) - 52 - double.leastPlace).toNat = m.log2 + 1022 := by
    show ((m.log2 : Int) - 52 - (-1074)).toNat = _
    omega
  rw [e4]
  have hb : double.binade = 2 ^ 52 := rfl
  rw [hb]
  congr 1
  apply Nat.min_eq_left
  have h2 : m < 2 ^ (m.log2 + 1) := Nat.lt_log2_self
  have h3 : m * 2 ^ (52 - m.log2) < 2 ^ 53 := by
    calc m * 2 ^ (52 - m.log2) < 2 ^ (m.log2 + 1) * 2 ^ (52 - m.log2) := Nat.mul_lt_mul_of_pos_right h2 (Nat.two_pow_pos _)
      _ = 2 ^ 53 := by rw [← Nat.pow_add]; congr 1; omega
  have h4 : (m.log2 + 1022) * 2 ^ 52 ≤ 1074 * 2 ^ 52 := Nat.mul_le_mul_right _ (by omega)
  have h5 : (m.log2 + 1022) * 2 ^ 52 + m * 2 ^ (52 - m.log2) ≤ 1074 * 2 ^ 52 + 2 ^ 53 := Nat.add_le_add h4 (Nat.le_of_lt h3)
  exact Nat.le_trans h5 (by decide)

theorem whole_zero {d : Datum} {k : Nat} (h : d = .number false 0 (-(k : Int))) : Whole d 0 := ⟨k, by rw [h]; simp⟩
theorem read_word (s : Bool) (q L : Nat) (hlo : 2 ^ 52 ≤ q) (hhi : q < 2 ^ 53) (hl : L ≤ 52) :
    double.read (double.word s ((L + 1022) * 2 ^ 52 + q)) = .number s q (-(52 - (L : Int))) := by
  have c1 : (2 : Nat) ^ 52 = 4503599627370496 := rfl
  have c2 : (2 : Nat) ^ 53 = 9007199254740992 := rfl
  rw [c1] at hlo ⊢
  rw [c2] at hhi
  have hsw : double.signWeight = 9223372036854775808 := rfl
  have hbn : double.binade = 4503599627370496 := rfl
  have hinf : double.infRung = 9218868437227405312 := rfl
  have hlp : double.leastPlace = -1074 := rfl
  obtain ⟨r, hr⟩ : ∃ r, (L + 1022) * 4503599627370496 + q = r := ⟨_, rfl⟩
  rw [hr]
  have hr1 : r < 9218868437227405312 := by omega
  have hr2 : 4503599627370496 ≤ r := by omega
  have hm : r % 4503599627370496 = q - 4503599627370496 := by omega
  have hd : r / 4503599627370496 = L + 1023 := by omega
  have hneg : (double.word s r / 9223372036854775808 % 2 == 1) = s := by
    unfold Format.word
    rw [hsw]
    cases s
    · have : r / 9223372036854775808 = 0 := by omega
      simp [this]
    · have : (9223372036854775808 + r) / 9223372036854775808 = 1 := by omega
      simp [this]
  have hrung : double.word s r % 9223372036854775808 = r := by
    unfold Format.word
    rw [hsw]
    cases s
    · simp; omega
    · simp; omega
  unfold Format.read
  rw [hsw, hbn, hinf, hlp, hneg, hrung]
  simp only
  have e1 : 4503599627370496 + (q - 4503599627370496) = q := Nat.add_sub_cancel' hlo
  have e2 : (-1074 : Int) + ((L + 1023 - 1 : Nat) : Int) = -(52 - (L : Int)) := by omega
  rw [if_neg (by omega), if_pos hr1, hm, hd, e1, e2]
/-- Writing a whole number in whatever form gives its word. -/
theorem write_whole {d : Datum} {n : Int} (h : Whole d n) (hn : n.natAbs < 2 ^ 53) : double.write d = fl n := by
  obtain ⟨k, rfl⟩ := h
  unfold fl Format.write
  simp only
  by_cases h0 : n.natAbs = 0
  · rw [h0, Nat.zero_mul]
    unfold Format.nearest
    rw [if_pos rfl, if_pos rfl]
  · rw [nearest_whole _ _ k h0 hn]
    have := nearest_whole (decide (n < 0)) n.natAbs 0 h0 hn
    rw [Nat.pow_zero, Nat.mul_one] at this
    exact this.symm
/-- Reading the word of a whole number gives it. -/
theorem read_fl {n : Int} (hn : n.natAbs < 2 ^ 53) : Whole (double.read (fl n)) n := by
  by_cases h0 : n.natAbs = 0
  · have hz : n = 0 := by omega
    subst hz
    exact whole_zero (d := double.read (fl 0)) (k := 1074) (by decide)
  · have hw := nearest_whole (decide (n < 0)) n.natAbs 0 h0 hn
    rw [Nat.pow_zero, Nat.mul_one] at hw
    have hfl : fl n = double.word (decide (n < 0)) ((n.natAbs.log2 + 1022) * 2 ^ 52 + n.natAbs * 2 ^ (52 - n.natAbs.log2)) := hw
    have hl : n.natAbs.log2 ≤ 52 := by
      have := (Nat.log2_lt h0).2 hn
      omega
    refine ⟨52 - n.natAbs.log2, ?_⟩
    have hlo : 2 ^ 52 ≤ n.natAbs * 2 ^ (52 - n.natAbs.log2) := by
      calc 2 ^ 52 = 2 ^ n.natAbs.log2 * 2 ^ (52 - n.natAbs.log2) := by rw [← Nat.pow_add]; congr 1; omega
        _ ≤ n.natAbs * 2 ^ (52 - n.natAbs.log2) := Nat.mul_le_mul_right _ (Nat.log2_self_le h0)
    have hhi : n.natAbs * 2 ^ (52 - n.natAbs.log2) < 2 ^ 53 := by
      calc n.natAbs * 2 ^ (52 - n.natAbs.log2) < 2 ^ (n.natAbs.log2 + 1) * 2 ^ (52 - n.natAbs.log2) := Nat.mul_lt_mul_of_pos_right Nat.lt_log2_self (Nat.two_pow_pos _)
        _ = 2 ^ 53 := by rw [← Nat.pow_add]; congr 1; omega
    rw [hfl]
    have e : ((52 - n.natAbs.log2 : Nat) : Int) = 52 - (n.natAbs.log2 : Int) := by omega
    rw [e]
    generalize n.natAbs * 2 ^ (52 - n.natAbs.log2) = q at hlo hhi ⊢
    generalize n.natAbs.log2 = L at hl ⊢
    exact read_word _ q L hlo hhi hl

/-! ### Sums, products, order, and what is cut -/
theorem signed_whole (n : Int) (k u : Nat) : signed (decide (n < 0)) (n.natAbs * 2 ^ k) u = n * (2 ^ (k + u) : Nat) := by
  unfold signed
  rw [Nat.shiftLeft_eq, Nat.mul_assoc, ← Nat.pow_add]
  by_cases h : n < 0
  · rw [decide_eq_true h, if_pos rfl]
    have e : (n.natAbs : Int) = -n := by omega
    rw [Int.natCast_mul, e, Int.neg_mul, Int.neg_neg]
  · rw [decide_eq_false h, if_neg (by decide)]
    have e : (n.natAbs : Int) = n := by omega
    rw [Int.natCast_mul, e]

theorem total_whole (n : Int) (M : Nat) : (n * ((2 ^ M : Nat) : Int)).natAbs = n.natAbs * 2 ^ M ∧ (n * ((2 ^ M : Nat) : Int) = 0 ↔ n = 0) ∧ (n * ((2 ^ M : Nat) : Int) < 0 ↔ n < 0) := by
  have hp : (0 : Int) < ((2 ^ M : Nat) : Int) := Int.natCast_pos.2 (Nat.two_pow_pos M)
  refine ⟨by rw [Int.natAbs_mul, Int.natAbs_natCast], ?_, ?_⟩
  · constructor
    · intro h
      rcases Int.mul_eq_zero.1 h with h | h
      · exact h
      · omega
    · rintro rfl; simp
  · constructor
    · intro h
      by_cases h1 : n < 0
      · exact h1
      · have := Int.mul_nonneg (show 0 ≤ n by omega) (Int.le_of_lt hp)
        omega
    · intro h
      exact Int.mul_neg_of_neg_of_pos h hp
theorem sum_whole {d e : Datum} {a b : Int} (ha : Whole d a) (hb : Whole e b) : ∃ f, d.sum e = some f ∧ Whole f (a + b) := by
  obtain ⟨i, rfl⟩ := ha
  obtain ⟨j, rfl⟩ := hb
  have hbase : min (-(i : Int)) (-(j : Int)) = -((max i j : Nat) : Int) := by omega
  have e1 : i + (-(i : Int) - -((max i j : Nat) : Int)).toNat = max i j := by omega
  have e2 : j + (-(j : Int) - -((max i j : Nat) : Int)).toNat = max i j := by omega
  refine ⟨_, rfl, max i j, ?_⟩
  simp only [hbase, signed_whole, e1, e2, ← Int.add_mul]
  obtain ⟨h1, h2, h3⟩ := total_whole (a + b) (max i j)
  rw [h1]
  have hs : (if (a + b) * ((2 ^ max i j : Nat) : Int) = 0 then decide (a < 0) && decide (b < 0) else decide ((a + b) * ((2 ^ max i j : Nat) : Int) < 0)) = decide (a + b < 0) := by
    by_cases h0 : a + b = 0
    · rw [if_pos (h2.2 h0)]
      rw [Bool.eq_iff_iff]
      simp
      omega
    · rw [if_neg (fun h => h0 (h2.1 h)), Bool.eq_iff_iff, decide_eq_true_iff, decide_eq_true_iff]
      exact h3
  rw [hs]
theorem opposite_whole {d : Datum} {a : Int} (ha : Whole d a) (h0 : a ≠ 0) : Whole d.opposite (-a) := by
  obtain ⟨i, rfl⟩ := ha
  refine ⟨i, ?_⟩
  show Datum.number (!decide (a < 0)) _ _ = _
  have e : (!decide (a < 0)) = decide (-a < 0) := by
    rw [Bool.eq_iff_iff]
    simp
    omega
  rw [e, Int.natAbs_neg]
theorem product_whole {d e : Datum} {a b : Int} (ha : Whole d a) (hb : Whole e b) (h0 : (0 ≤ a ∧ 0 ≤ b) ∨ a * b ≠ 0) : ∃ f, d.product e = some f ∧ Whole f (a * b) := by
  obtain ⟨i, rfl⟩ := ha
  obtain ⟨j, rfl⟩ := hb
  refine ⟨_, rfl, i + j, ?_⟩
  have e1 : a.natAbs * 2 ^ i * (b.natAbs * 2 ^ j) = (a * b).natAbs * 2 ^ (i + j) := by
    rw [Int.natAbs_mul, Nat.pow_add, Nat.mul_assoc, Nat.mul_assoc, Nat.mul_left_comm (2 ^ i)]
  have e2 : -(i : Int) + -(j : Int) = -((i + j : Nat) : Int) := by omega
  have e3 : (decide (a < 0) ^^ decide (b < 0)) = decide (a * b < 0) := by
    rw [Bool.eq_iff_iff]
    simp only [bne_iff_ne, ne_eq, decide_eq_decide, decide_eq_true_eq]
    rcases h0 with ⟨h1, h2⟩ | h0
    · have := Int.mul_nonneg h1 h2
      omega
    · have ha0 : a ≠ 0 := fun h => h0 (by rw [h, Int.zero_mul])
      have hb0 : b ≠ 0 := fun h => h0 (by rw [h, Int.mul_zero])
      by_cases ha : a < 0
      · by_cases hb : b < 0
        · have := Int.mul_pos_of_neg_of_neg ha hb
          omega
        · have := Int.mul_neg_of_neg_of_pos ha (show 0 < b by omega)
          omega
      · by_cases hb : b < 0
        · have := Int.mul_neg_of_pos_of_neg (show 0 < a by omega) hb
          omega
        · have := Int.mul_pos (show 0 < a by omega) (show 0 < b by omega)
          omega
  rw [e1, e2, e3]
theorem diff_whole {d e : Datum} {a b : Int} (ha : Whole d a) (hb : Whole e b) : ∃ f, d.sum e.opposite = some f ∧ Whole f (a - b) := by
  by_cases h0 : b = 0
  · subst h0
    obtain ⟨i, rfl⟩ := ha
    obtain ⟨j, rfl⟩ := hb
    have hbase : min (-(i : Int)) (-(j : Int)) = -((max i j : Nat) : Int) := by omega
    have e1 : i + (-(i : Int) - -((max i j : Nat) : Int)).toNat = max i j := by omega
    refine ⟨_, rfl, max i j, ?_⟩
    have hz : ∀ u : Nat, signed (!decide ((0 : Int) < 0)) ((0 : Int).natAbs * 2 ^ j) u = 0 := fun u => by simp [signed]
    simp only [hbase, signed_whole, e1, hz, Int.add_zero, Int.sub_zero]
    obtain ⟨h1, h2, h3⟩ := total_whole a (max i j)
    rw [h1]
    have hs : (if a * ((2 ^ max i j : Nat) : Int) = 0 then decide (a < 0) && !decide ((0 : Int) < 0) else decide (a * ((2 ^ max i j : Nat) : Int) < 0)) = decide (a < 0) := by
      by_cases h0 : a = 0
      · rw [if_pos (h2.2 h0)]
        simp
      · rw [if_neg (fun h => h0 (h2.1 h)), Bool.eq_iff_iff, decide_eq_true_iff, decide_eq_true_iff]
        exact h3
    rw [hs]
  · obtain ⟨f, h1, h2⟩ := sum_whole ha (opposite_whole hb h0)
    exact ⟨f, h1, by rw [Int.sub_eq_add_neg]; exact h2⟩
theorem order_whole {d e : Datum} {a b : Int} (ha : Whole d a) (hb : Whole e b) : d.order e = some (compare a b) := by
  obtain ⟨i, rfl⟩ := ha
  obtain ⟨j, rfl⟩ := hb
  have hbase : min (-(i : Int)) (-(j : Int)) = -((max i j : Nat) : Int) := by omega
  have e1 : i + (-(i : Int) - -((max i j : Nat) : Int)).toNat = max i j := by omega
  have e2 : j + (-(j : Int) - -((max i j : Nat) : Int)).toNat = max i j := by omega
  show some (compare _ _) = _
  simp only [hbase, signed_whole, e1, e2]
  have hp : (0 : Int) < ((2 ^ max i j : Nat) : Int) := Int.natCast_pos.2 (Nat.two_pow_pos _)
  congr 1
  simp only [compare, compareOfLessAndEq]
  have hlt : a * ((2 ^ max i j : Nat) : Int) < b * ((2 ^ max i j : Nat) : Int) ↔ a < b := Int.mul_lt_mul_right hp
  have he : a * ((2 ^ max i j : Nat) : Int) = b * ((2 ^ max i j : Nat) : Int) ↔ a = b := ⟨fun h => Int.eq_of_mul_eq_mul_right (by omega) h, fun h => by rw [h]⟩
  simp only [hlt, he]
theorem toInt_whole {d : Datum} {a : Int} (ha : Whole d a) (way : Toward) : d.toInt way = some a := by
  obtain ⟨i, rfl⟩ := ha
  unfold Datum.toInt Datum.integral
  simp only
  have e1 : (-(i : Int)).toNat = 0 := by omega
  have e2 : (- -(i : Int)).toNat = i := by omega
  rw [e1, e2, Nat.shiftLeft_zero]
  have hc : way.cut (decide (a < 0)) (a.natAbs * 2 ^ i) i = a.natAbs := by
    by_cases h0 : a.natAbs = 0
    · rw [h0, Nat.zero_mul]
      unfold Toward.cut
      cases way <;> simp
    · exact cut_exact _ _ _ _ (by rw [log2_mul _ _ h0]; omega)
  rw [hc]
  have := signed_whole a 0 0
  simp only [Nat.pow_zero, Nat.mul_one, Nat.add_zero] at this
  rw [this]
  simp

/-! ### Words -/
theorem fl_add {a b : Int} (ha : a.natAbs < 2 ^ 53) (hb : b.natAbs < 2 ^ 53) (hc : (a + b).natAbs < 2 ^ 53) : double.add (fl a) (fl b) = some (fl (a + b)) := by
  obtain ⟨f, h1, h2⟩ := sum_whole (read_fl ha) (read_fl hb)
  unfold Format.add
  rw [h1, Option.map_some, write_whole h2 hc]
theorem fl_sub {a b : Int} (ha : a.natAbs < 2 ^ 53) (hb : b.natAbs < 2 ^ 53) (hc : (a - b).natAbs < 2 ^ 53) : double.sub (fl a) (fl b) = some (fl (a - b)) := by
  obtain ⟨f, h1, h2⟩ := diff_whole (read_fl ha) (read_fl hb)
  unfold Format.sub
  rw [h1, Option.map_some, write_whole h2 hc]
theorem fl_mul {a b : Int} (ha : a.natAbs < 2 ^ 53) (hb : b.natAbs < 2 ^ 53) (hc : (a * b).natAbs < 2 ^ 53) (h0 : (0 ≤ a ∧ 0 ≤ b) ∨ a * b ≠ 0) : double.mul (fl a) (fl b) = some (fl (a * b)) := by
  obtain ⟨f, h1, h2⟩ := product_whole (read_fl ha) (read_fl hb) h0
  unfold Format.mul
  rw [h1, Option.map_some, write_whole h2 hc]
theorem fl_order {a b : Int} (ha : a.natAbs < 2 ^ 53) (hb : b.natAbs < 2 ^ 53) : double.order (fl a) (fl b) = some (compare a b) := order_whole (read_fl ha) (read_fl hb)
theorem fl_toInt {a : Int} (ha : a.natAbs < 2 ^ 53) (way : Toward) : (double.read (fl a)).toInt way = some a := toInt_whole (read_fl ha) way
theorem fl_nearest (n : Int) : FloatKind.nearest .f64 n = fl n := rfl

end Go.Proofs.Ythlngicfcmiedaa
