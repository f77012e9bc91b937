/-
  Sums of bytes in the plane: gauss's and moultref02's points, chains, bytes (stage 2's texts, as one).
-/
import Derived.Laws.ComplexArith
import Derived.Test.YtcpdjhkpmaamdaaGreatBase
import Derived.WalkLawsBesides
import Derived.Outline
import Derived.RangeFuncBox
import Derived.Deep.QuietTactic
import Derived.BigQuiet
import Derived.RangeFuncNested
import Derived.RangeFuncBound
import Derived.RangeFuncCalls
import Derived.RangeFuncLeaves
import Derived.Shelf.Abstract
import Derived.Shelf.RegionOpen
import Derived.OwnWalkIn
import Derived.TacticsInMore
import Derived.LoopNIn
import Derived.LoopIn
import Derived.Test.YtcpdjhkpmaamdaaGreatMarks
import Derived.Laws.EntriesVeiled
import Derived.ChangeKeysEq
import Derived.Laws.StructEq
import Derived.Test.YtcpdjhkpmaamdaaGreatByt
import Derived.Test.YtcpdjhkpmaamdaaGreatParts
import Derived.Test.YtcpdjhkpmaamdaaGreatMade
import Derived.Test.YtcpdjhkpmaamdaaGreatScope
namespace Go.Proofs.YtcpdjhkpmaamdaaGreat.Ga
open Go Ieee

/-- A datum is the whole number n (m * 2^(-k)); a nought is the one above. -/
def Whole (d : Datum) (n : Int) : Prop := ∃ k : Nat, d = .number (decide (n < 0)) (n.natAbs * 2 ^ k) (-(k : Int))

/-- The word of a whole number. -/
def fl (n : Int) : Nat := double.write (.number (decide (n < 0)) n.natAbs 0)

theorem cut_exact (neg : Bool) (way : Toward) (a k : Nat) (h : k ≤ (a * 2 ^ k).log2 + 2) : way.cut neg (a * 2 ^ k) k = a := by
  unfold Toward.cut
  rw [Nat.min_eq_left h, Nat.shiftLeft_eq, Nat.one_mul]
  have hp : 0 < 2 ^ k := Nat.two_pow_pos k
  have h1 : a * 2 ^ k / 2 ^ k = a := Nat.mul_div_cancel a hp
  have h2 : a * 2 ^ k % 2 ^ k = 0 := Nat.mul_mod_left a (2 ^ k)
  simp only [h1, h2]
  cases way
  · simp
  · simp
  · simp
  · simp
theorem log2_mul (m k : Nat) (hm : m ≠ 0) : (m * 2 ^ k).log2 = m.log2 + k := by
  have hp : 0 < 2 ^ k := Nat.two_pow_pos k
  have hne : m * 2 ^ k ≠ 0 := Nat.mul_ne_zero hm (by omega)
  have h1 : 2 ^ m.log2 ≤ m := Nat.log2_self_le hm
  have h2 : m < 2 ^ (m.log2 + 1) := Nat.lt_log2_self
  apply Nat.le_antisymm
  · have : (m * 2 ^ k).log2 < m.log2 + k + 1 := by
      rw [Nat.log2_lt hne, show m.log2 + k + 1 = (m.log2 + 1) + k by omega, Nat.pow_add]
      exact Nat.mul_lt_mul_of_pos_right h2 hp
    omega
  · rw [Nat.le_log2 hne, Nat.pow_add]
    exact Nat.mul_le_mul_right _ h1

/-- The significand, shifted up to its 53 digits. -/
theorem nearest_whole (s : Bool) (m k : Nat) (hm : m ≠ 0) (h53 : m < 2 ^ 53) :
    double.nearest s (m * 2 ^ k) (-(k : Int)) = double.word s ((m.log2 + 1022) * 2 ^ 52 + m * 2 ^ (52 - m.log2)) := by
  have hl : m.log2 ≤ 52 := by
    have := (Nat.log2_lt hm).2 h53
    omega
  have hp : 0 < 2 ^ k := Nat.two_pow_pos k
  have hne : m * 2 ^ k ≠ 0 := Nat.mul_ne_zero hm (by omega)
  unfold Format.nearest
  rw [if_neg hne]
  simp only [log2_mul m k hm]
  have hlast : max (-(k : Int) + ((m.log2 + k : Nat) : Int) - (double.fractionBits : Nat)) double.leastPlace = (m.log2 : Int) - 52 := by
    show max (-(k : Int) + ((m.log2 + k : Nat) : Int) - ((52 : Nat) : Int)) (-1074 : Int) = _
    omega
  rw [hlast]
  have hkept : Toward.even.cut s ((m * 2 ^ k) <<< (-(k : Int) - ((m.log2 : Int) - 52)).toNat) (((m.log2 : Int) - 52) - -(k : Int)).toNat = m * 2 ^ (52 - m.log2) := by
    by_cases hk : k ≤ 52 - m.log2
    · have e1 : (-(k : Int) - ((m.log2 : Int) - 52)).toNat = 52 - m.log2 - k := by omega
      have e2 : (((m.log2 : Int) - 52) - -(k : Int)).toNat = 0 := by omega
      rw [e1, e2, Nat.shiftLeft_eq, Nat.mul_assoc, ← Nat.pow_add, show k + (52 - m.log2 - k) = 52 - m.log2 by omega]
      have := cut_exact s .even (m * 2 ^ (52 - m.log2)) 0 (by omega)
      rwa [Nat.pow_zero, Nat.mul_one] at this
    · have e1 : (-(k : Int) - ((m.log2 : Int) - 52)).toNat = 0 := by omega
      have e2 : (((m.log2 : Int) - 52) - -(k : Int)).toNat = k - (52 - m.log2) := by omega
      rw [e1, e2, Nat.shiftLeft_zero]
      have e3 : m * 2 ^ k = (m * 2 ^ (52 - m.log2)) * 2 ^ (k - (52 - m.log2)) := by
        rw [Nat.mul_assoc, ← Nat.pow_add, show 52 - m.log2 + (k - (52 - m.log2)) = k by omega]
      rw [e3]
      refine cut_exact s .even _ _ ?_
      rw [← e3, log2_mul m k hm]
      omega
  rw [hkept]
  have e4 : ((m.log2 : Int) - 52 - double.leastPlace).toNat = m.log2 + 1022 := by
    show ((m.log2 : Int) - 52 - (-1074)).toNat = _
    omega
  rw [e4]
  have hb : double.binade = 2 ^ 52 := rfl
  rw [hb]
  congr 1
  apply Nat.min_eq_left
  have h2 : m < 2 ^ (m.log2 + 1) := Nat.lt_log2_self
  have h3 : m * 2 ^ (52 - m.log2) < 2 ^ 53 := by
    calc m * 2 ^ (52 - m.log2) < 2 ^ (m.log2 + 1) * 2 ^ (52 - m.log2) := Nat.mul_lt_mul_of_pos_right h2 (Nat.two_pow_pos _)
      _ = 2 ^ 53 := by rw [← Nat.pow_add]; congr 1; omega
  have h4 : (m.log2 + 1022) * 2 ^ 52 ≤ 1074 * 2 ^ 52 := Nat.mul_le_mul_right _ (by omega)
  have h5 : (m.log2 + 1022) * 2 ^ 52 + m * 2 ^ (52 - m.log2) ≤ 1074 * 2 ^ 52 + 2 ^ 53 := Nat.add_le_add h4 (Nat.le_of_lt h3)
  exact Nat.le_trans h5 (by decide)

theorem whole_zero {d : Datum} {k : Nat} (h : d = .number false 0 (-(k : Int))) : Whole d 0 := ⟨k, by rw [h]; simp⟩
theorem read_word (s : Bool) (q L : Nat) (hlo : 2 ^ 52 ≤ q) (hhi : q < 2 ^ 53) (hl : L ≤ 52) :
    double.read (double.word s ((L + 1022) * 2 ^ 52 + q)) = .number s q (-(52 - (L : Int))) := by
  have c1 : (2 : Nat) ^ 52 = 4503599627370496 := rfl
  have c2 : (2 : Nat) ^ 53 = 9007199254740992 := rfl
  rw [c1] at hlo ⊢
  rw [c2] at hhi
  have hsw : double.signWeight = 9223372036854775808 := rfl
  have hbn : double.binade = 4503599627370496 := rfl
  have hinf : double.infRung = 9218868437227405312 := rfl
  have hlp : double.leastPlace = -1074 := rfl
  obtain ⟨r, hr⟩ : ∃ r, (L + 1022) * 4503599627370496 + q = r := ⟨_, rfl⟩
  rw [hr]
  have hr1 : r < 9218868437227405312 := by omega
  have hr2 : 4503599627370496 ≤ r := by omega
  have hm : r % 4503599627370496 = q - 4503599627370496 := by omega
  have hd : r / 4503599627370496 = L + 1023 := by omega
  have hneg : (double.word s r / 9223372036854775808 % 2 == 1) = s := by
    unfold Format.word
    rw [hsw]
    cases s
    · have : r / 9223372036854775808 = 0 := by omega
      simp [this]
    · have : (9223372036854775808 + r) / 9223372036854775808 = 1 := by omega
      simp [this]
  have hrung : double.word s r % 9223372036854775808 = r := by
    unfold Format.word
    rw [hsw]
    cases s
    · simp; omega
    · simp; omega
  unfold Format.read
  rw [hsw, hbn, hinf, hlp, hneg, hrung]
  simp only
  have e1 : 4503599627370496 + (q - 4503599627370496) = q := Nat.add_sub_cancel' hlo
  have e2 : (-1074 : Int) + ((L + 1023 - 1 : Nat) : Int) = -(52 - (L : Int)) := by omega
  rw [if_neg (by omega), if_pos hr1, hm, hd, e1, e2]
/-- Writing a whole number in whatever form gives its word. -/
theorem write_whole {d : Datum} {n : Int} (h : Whole d n) (hn : n.natAbs < 2 ^ 53) : double.write d = fl n := by
  obtain ⟨k, rfl⟩ := h
  unfold fl Format.write
  simp only
  by_cases h0 : n.natAbs = 0
  · rw [h0, Nat.zero_mul]
    unfold Format.nearest
    rw [if_pos rfl, if_pos rfl]
  · rw [nearest_whole _ _ k h0 hn]
    have := nearest_whole (decide (n < 0)) n.natAbs 0 h0 hn
    rw [Nat.pow_zero, Nat.mul_one] at this
    exact this.symm
/-- Reading the word of a whole number gives it. -/
theorem read_fl {n : Int} (hn : n.natAbs < 2 ^ 53) : Whole (double.read (fl n)) n := by
  by_cases h0 : n.natAbs = 0
  · have hz : n = 0 := by omega
    subst hz
    exact whole_zero (d := double.read (fl 0)) (k := 1074) (by decide)
  · have hw := nearest_whole (decide (n < 0)) n.natAbs 0 h0 hn
    rw [Nat.pow_zero, Nat.mul_one] at hw
    have hfl : fl n = double.word (decide (n < 0)) ((n.natAbs.log2 + 1022) * 2 ^ 52 + n.natAbs * 2 ^ (52 - n.natAbs.log2)) := hw
    have hl : n.natAbs.log2 ≤ 52 := by
      have := (Nat.log2_lt h0).2 hn
      omega
    refine ⟨52 - n.natAbs.log2, ?_⟩
    have hlo : 2 ^ 52 ≤ n.natAbs * 2 ^ (52 - n.natAbs.log2) := by
      calc 2 ^ 52 = 2 ^ n.natAbs.log2 * 2 ^ (52 - n.natAbs.log2) := by rw [← Nat.pow_add]; congr 1; omega
        _ ≤ n.natAbs * 2 ^ (52 - n.natAbs.log2) := Nat.mul_le_mul_right _ (Nat.log2_self_le h0)
    have hhi : n.natAbs * 2 ^ (52 - n.natAbs.log2) < 2 ^ 53 := by
      calc n.natAbs * 2 ^ (52 - n.natAbs.log2) < 2 ^ (n.natAbs.log2 + 1) * 2 ^ (52 - n.natAbs.log2) := Nat.mul_lt_mul_of_pos_right Nat.lt_log2_self (Nat.two_pow_pos _)
        _ = 2 ^ 53 := by rw [← Nat.pow_add]; congr 1; omega
    rw [hfl]
    have e : ((52 - n.natAbs.log2 : Nat) : Int) = 52 - (n.natAbs.log2 : Int) := by omega
    rw [e]
    generalize n.natAbs * 2 ^ (52 - n.natAbs.log2) = q at hlo hhi ⊢
    generalize n.natAbs.log2 = L at hl ⊢
    exact read_word _ q L hlo hhi hl

/-! ### Sums, products, order, and what is cut -/
theorem signed_whole (n : Int) (k u : Nat) : signed (decide (n < 0)) (n.natAbs * 2 ^ k) u = n * (2 ^ (k + u) : Nat) := by
  unfold signed
  rw [Nat.shiftLeft_eq, Nat.mul_assoc, ← Nat.pow_add]
  by_cases h : n < 0
  · rw [decide_eq_true h, if_pos rfl]
    have e : (n.natAbs : Int) = -n := by omega
    rw [Int.natCast_mul, e, Int.neg_mul, Int.neg_neg]
  · rw [decide_eq_false h, if_neg (by decide)]
    have e : (n.natAbs : Int) = n := by omega
    rw [Int.natCast_mul, e]

theorem total_whole (n : Int) (M : Nat) : (n * ((2 ^ M : Nat) : Int)).natAbs = n.natAbs * 2 ^ M ∧ (n * ((2 ^ M : Nat) : Int) = 0 ↔ n = 0) ∧ (n * ((2 ^ M : Nat) : Int) < 0 ↔ n < 0) := by
  have hp : (0 : Int) < ((2 ^ M : Nat) : Int) := Int.natCast_pos.2 (Nat.two_pow_pos M)
  refine ⟨by rw [Int.natAbs_mul, Int.natAbs_natCast], ?_, ?_⟩
  · constructor
    · intro h
      rcases Int.mul_eq_zero.1 h with h | h
      · exact h
      · omega
    · rintro rfl; simp
  · constructor
    · intro h
      by_cases h1 : n < 0
      · exact h1
      · have := Int.mul_nonneg (show 0 ≤ n by omega) (Int.le_of_lt hp)
        omega
    · intro h
      exact Int.mul_neg_of_neg_of_pos h hp
theorem sum_whole {d e : Datum} {a b : Int} (ha : Whole d a) (hb : Whole e b) : ∃ f, d.sum e = some f ∧ Whole f (a + b) := by
  obtain ⟨i, rfl⟩ := ha
  obtain ⟨j, rfl⟩ := hb
  have hbase : min (-(i : Int)) (-(j : Int)) = -((max i j : Nat) : Int) := by omega
  have e1 : i + (-(i : Int) - -((max i j : Nat) : Int)).toNat = max i j := by omega
  have e2 : j + (-(j : Int) - -((max i j : Nat) : Int)).toNat = max i j := by omega
  refine ⟨_, rfl, max i j, ?_⟩
  simp only [hbase, signed_whole, e1, e2, ← Int.add_mul]
  obtain ⟨h1, h2, h3⟩ := total_whole (a + b) (max i j)
  rw [h1]
  have hs : (if (a + b) * ((2 ^ max i j : Nat) : Int) = 0 then decide (a < 0) && decide (b < 0) else decide ((a + b) * ((2 ^ max i j : Nat) : Int) < 0)) = decide (a + b < 0) := by
    by_cases h0 : a + b = 0
    · rw [if_pos (h2.2 h0)]
      rw [Bool.eq_iff_iff]
      simp
      omega
    · rw [if_neg (fun h => h0 (h2.1 h)), Bool.eq_iff_iff, decide_eq_true_iff, decide_eq_true_iff]
      exact h3
  rw [hs]
theorem opposite_whole {d : Datum} {a : Int} (ha : Whole d a) (h0 : a ≠ 0) : Whole d.opposite (-a) := by
  obtain ⟨i, rfl⟩ := ha
  refine ⟨i, ?_⟩
  show Datum.number (!decide (a < 0)) _ _ = _
  have e : (!decide (a < 0)) = decide (-a < 0) := by
    rw [Bool.eq_iff_iff]
    simp
    omega
  rw [e, Int.natAbs_neg]
theorem product_whole {d e : Datum} {a b : Int} (ha : Whole d a) (hb : Whole e b) (h0 : (0 ≤ a ∧ 0 ≤ b) ∨ a * b ≠ 0) : ∃ f, d.product e = some f ∧ Whole f (a * b) := by
  obtain ⟨i, rfl⟩ := ha
  obtain ⟨j, rfl⟩ := hb
  refine ⟨_, rfl, i + j, ?_⟩
  have e1 : a.natAbs * 2 ^ i * (b.natAbs * 2 ^ j) = (a * b).natAbs * 2 ^ (i + j) := by
    rw [Int.natAbs_mul, Nat.pow_add, Nat.mul_assoc, Nat.mul_assoc, Nat.mul_left_comm (2 ^ i)]
  have e2 : -(i : Int) + -(j : Int) = -((i + j : Nat) : Int) := by omega
  have e3 : (decide (a < 0) ^^ decide (b < 0)) = decide (a * b < 0) := by
    rw [Bool.eq_iff_iff]
    simp only [bne_iff_ne, ne_eq, decide_eq_decide, decide_eq_true_eq]
    rcases h0 with ⟨h1, h2⟩ | h0
    · have := Int.mul_nonneg h1 h2
      omega
    · have ha0 : a ≠ 0 := fun h => h0 (by rw [h, Int.zero_mul])
      have hb0 : b ≠ 0 := fun h => h0 (by rw [h, Int.mul_zero])
      by_cases ha : a < 0
      · by_cases hb : b < 0
        · have := Int.mul_pos_of_neg_of_neg ha hb
          omega
        · have := Int.mul_neg_of_neg_of_pos ha (show 0 < b by omega)
          omega
      · by_cases hb : b < 0
        · have := Int.mul_neg_of_pos_of_neg (show 0 < a by omega) hb
          omega
        · have := Int.mul_pos (show 0 < a by omega) (show 0 < b by omega)
          omega
  rw [e1, e2, e3]
theorem diff_whole {d e : Datum} {a b : Int} (ha : Whole d a) (hb : Whole e b) : ∃ f, d.sum e.opposite = some f ∧ Whole f (a - b) := by
  by_cases h0 : b = 0
  · subst h0
    obtain ⟨i, rfl⟩ := ha
    obtain ⟨j, rfl⟩ := hb
    have hbase : min (-(i : Int)) (-(j : Int)) = -((max i j : Nat) : Int) := by omega
    have e1 : i + (-(i : Int) - -((max i j : Nat) : Int)).toNat = max i j := by omega
    refine ⟨_, rfl, max i j, ?_⟩
    have hz : ∀ u : Nat, signed (!decide ((0 : Int) < 0)) ((0 : Int).natAbs * 2 ^ j) u = 0 := fun u => by simp [signed]
    simp only [hbase, signed_whole, e1, hz, Int.add_zero, Int.sub_zero]
    obtain ⟨h1, h2, h3⟩ := total_whole a (max i j)
    rw [h1]
    have hs : (if a * ((2 ^ max i j : Nat) : Int) = 0 then decide (a < 0) && !decide ((0 : Int) < 0) else decide (a * ((2 ^ max i j : Nat) : Int) < 0)) = decide (a < 0) := by
      by_cases h0 : a = 0
      · rw [if_pos (h2.2 h0)]
        simp
      · rw [if_neg (fun h => h0 (h2.1 h)), Bool.eq_iff_iff, decide_eq_true_iff, decide_eq_true_iff]
        exact h3
    rw [hs]
  · obtain ⟨f, h1, h2⟩ := sum_whole ha (opposite_whole hb h0)
    exact ⟨f, h1, by rw [Int.sub_eq_add_neg]; exact h2⟩
theorem order_whole {d e : Datum} {a b : Int} (ha : Whole d a) (hb : Whole e b) : d.order e = some (compare a b) := by
  obtain ⟨i, rfl⟩ := ha
  obtain ⟨j, rfl⟩ := hb
  have hbase : min (-(i : Int)) (-(j : Int)) = -((max i j : Nat) : Int) := by omega
  have e1 : i + (-(i : Int) - -((max i j : Nat) : Int)).toNat = max i j := by omega
  have e2 : j + (-(j : Int) - -((max i j : Nat) : Int)).toNat = max i j := by omega
  show some (compare _ _) = _
  simp only [hbase, signed_whole, e1, e2]
  have hp : (0 : Int) < ((2 ^ max i j : Nat) : Int) := Int.natCast_pos.2 (Nat.two_pow_pos _)
  congr 1
  simp only [compare, compareOfLessAndEq]
  have hlt : a * ((2 ^ max i j : Nat) : Int) < b * ((2 ^ max i j : Nat) : Int) ↔ a < b := Int.mul_lt_mul_right hp
  have he : a * ((2 ^ max i j : Nat) : Int) = b * ((2 ^ max i j : Nat) : Int) ↔ a = b := ⟨fun h => Int.eq_of_mul_eq_mul_right (by omega) h, fun h => by rw [h]⟩
  simp only [hlt, he]
theorem toInt_whole {d : Datum} {a : Int} (ha : Whole d a) (way : Toward) : d.toInt way = some a := by
  obtain ⟨i, rfl⟩ := ha
  unfold Datum.toInt Datum.integral
  simp only
  have e1 : (-(i : Int)).toNat = 0 := by omega
  have e2 : (- -(i : Int)).toNat = i := by omega
  rw [e1, e2, Nat.shiftLeft_zero]
  have hc : way.cut (decide (a < 0)) (a.natAbs * 2 ^ i) i = a.natAbs := by
    by_cases h0 : a.natAbs = 0
    · rw [h0, Nat.zero_mul]
      unfold Toward.cut
      cases way <;> simp
    · exact cut_exact _ _ _ _ (by rw [log2_mul _ _ h0]; omega)
  rw [hc]
  have := signed_whole a 0 0
  simp only [Nat.pow_zero, Nat.mul_one, Nat.add_zero] at this
  rw [this]
  simp

/-! ### Words -/
theorem fl_add {a b : Int} (ha : a.natAbs < 2 ^ 53) (hb : b.natAbs < 2 ^ 53) (hc : (a + b).natAbs < 2 ^ 53) : double.add (fl a) (fl b) = some (fl (a + b)) := by
  obtain ⟨f, h1, h2⟩ := sum_whole (read_fl ha) (read_fl hb)
  unfold Format.add
  rw [h1, Option.map_some, write_whole h2 hc]
theorem fl_sub {a b : Int} (ha : a.natAbs < 2 ^ 53) (hb : b.natAbs < 2 ^ 53) (hc : (a - b).natAbs < 2 ^ 53) : double.sub (fl a) (fl b) = some (fl (a - b)) := by
  obtain ⟨f, h1, h2⟩ := diff_whole (read_fl ha) (read_fl hb)
  unfold Format.sub
  rw [h1, Option.map_some, write_whole h2 hc]
theorem fl_mul {a b : Int} (ha : a.natAbs < 2 ^ 53) (hb : b.natAbs < 2 ^ 53) (hc : (a * b).natAbs < 2 ^ 53) (h0 : (0 ≤ a ∧ 0 ≤ b) ∨ a * b ≠ 0) : double.mul (fl a) (fl b) = some (fl (a * b)) := by
  obtain ⟨f, h1, h2⟩ := product_whole (read_fl ha) (read_fl hb) h0
  unfold Format.mul
  rw [h1, Option.map_some, write_whole h2 hc]
theorem fl_order {a b : Int} (ha : a.natAbs < 2 ^ 53) (hb : b.natAbs < 2 ^ 53) : double.order (fl a) (fl b) = some (compare a b) := order_whole (read_fl ha) (read_fl hb)
theorem fl_toInt {a : Int} (ha : a.natAbs < 2 ^ 53) (way : Toward) : (double.read (fl a)).toInt way = some a := toInt_whole (read_fl ha) way
theorem fl_nearest (n : Int) : FloatKind.nearest .f64 n = fl n := rfl
end Go.Proofs.YtcpdjhkpmaamdaaGreat.Ga

namespace Go.Proofs.YtcpdjhkpmaamdaaGreat.Ga
open Go Ieee

/-- A datum's value is the whole number n. -/
def Val (d : Datum) (n : Int) : Prop := ∃ (s : Bool) (k : Nat), d = .number s (n.natAbs * 2 ^ k) (-(k : Int)) ∧ (n ≠ 0 → s = decide (n < 0))
theorem Whole.val {d : Datum} {n : Int} (h : Whole d n) : Val d n := by
  obtain ⟨k, rfl⟩ := h
  exact ⟨_, k, rfl, fun _ => rfl⟩
theorem signed_val {s : Bool} {n : Int} (h : n ≠ 0 → s = decide (n < 0)) (k u : Nat) : signed s (n.natAbs * 2 ^ k) u = n * (2 ^ (k + u) : Nat) := by
  by_cases h0 : n = 0
  · subst h0
    unfold signed
    cases s <;> simp
  · rw [h h0]; exact signed_whole n k u
theorem sum_val {d e : Datum} {a b : Int} (ha : Val d a) (hb : Val e b) : ∃ f, d.sum e = some f ∧ Val f (a + b) := by
  obtain ⟨s, i, rfl, hs⟩ := ha
  obtain ⟨t, j, rfl, ht⟩ := hb
  have hbase : min (-(i : Int)) (-(j : Int)) = -((max i j : Nat) : Int) := by omega
  have e1 : i + (-(i : Int) - -((max i j : Nat) : Int)).toNat = max i j := by omega
  have e2 : j + (-(j : Int) - -((max i j : Nat) : Int)).toNat = max i j := by omega
  refine ⟨_, rfl, ?_⟩
  simp only [hbase, signed_val hs, signed_val ht, e1, e2, ← Int.add_mul]
  obtain ⟨h1, h2, h3⟩ := total_whole (a + b) (max i j)
  rw [h1]
  refine ⟨_, max i j, rfl, fun h0 => ?_⟩
  rw [if_neg (fun h => h0 (h2.1 h)), Bool.eq_iff_iff, decide_eq_true_iff, decide_eq_true_iff]
  exact h3
theorem opposite_val {d : Datum} {a : Int} (ha : Val d a) : Val d.opposite (-a) := by
  obtain ⟨s, i, rfl, hs⟩ := ha
  refine ⟨!s, i, ?_, fun h0 => ?_⟩
  · show Datum.number (!s) _ _ = _
    rw [Int.natAbs_neg]
  · rw [hs (by omega), Bool.eq_iff_iff]
    simp
    omega
theorem product_val {d e : Datum} {a b : Int} (ha : Val d a) (hb : Val e b) : ∃ f, d.product e = some f ∧ Val f (a * b) := by
  obtain ⟨s, i, rfl, hs⟩ := ha
  obtain ⟨t, j, rfl, ht⟩ := hb
  refine ⟨_, rfl, s ^^ t, i + j, ?_, fun h0 => ?_⟩
  · have e1 : a.natAbs * 2 ^ i * (b.natAbs * 2 ^ j) = (a * b).natAbs * 2 ^ (i + j) := by
      rw [Int.natAbs_mul, Nat.pow_add, Nat.mul_assoc, Nat.mul_assoc, Nat.mul_left_comm (2 ^ i)]
    have e2 : -(i : Int) + -(j : Int) = -((i + j : Nat) : Int) := by omega
    rw [e1, e2]
  · have ha0 : a ≠ 0 := fun h => h0 (by rw [h, Int.zero_mul])
    have hb0 : b ≠ 0 := fun h => h0 (by rw [h, Int.mul_zero])
    rw [hs ha0, ht hb0, Bool.eq_iff_iff]
    simp only [bne_iff_ne, ne_eq, decide_eq_decide, decide_eq_true_eq]
    by_cases ha : a < 0
    · by_cases hb : b < 0
      · have := Int.mul_pos_of_neg_of_neg ha hb
        omega
      · have := Int.mul_neg_of_neg_of_pos ha (show 0 < b by omega)
        omega
    · by_cases hb : b < 0
      · have := Int.mul_neg_of_pos_of_neg (show 0 < a by omega) hb
        omega
      · have := Int.mul_pos (show 0 < a by omega) (show 0 < b by omega)
        omega
theorem order_val {d e : Datum} {a b : Int} (ha : Val d a) (hb : Val e b) : d.order e = some (compare a b) := by
  obtain ⟨s, i, rfl, hs⟩ := ha
  obtain ⟨t, j, rfl, ht⟩ := hb
  have hbase : min (-(i : Int)) (-(j : Int)) = -((max i j : Nat) : Int) := by omega
  have e1 : i + (-(i : Int) - -((max i j : Nat) : Int)).toNat = max i j := by omega
  have e2 : j + (-(j : Int) - -((max i j : Nat) : Int)).toNat = max i j := by omega
  show some (compare _ _) = _
  simp only [hbase, signed_val hs, signed_val ht, e1, e2]
  have hp : (0 : Int) < ((2 ^ max i j : Nat) : Int) := Int.natCast_pos.2 (Nat.two_pow_pos _)
  congr 1
  simp only [compare, compareOfLessAndEq]
  have hlt : a * ((2 ^ max i j : Nat) : Int) < b * ((2 ^ max i j : Nat) : Int) ↔ a < b := Int.mul_lt_mul_right hp
  have he : a * ((2 ^ max i j : Nat) : Int) = b * ((2 ^ max i j : Nat) : Int) ↔ a = b := ⟨fun h => Int.eq_of_mul_eq_mul_right (by omega) h, fun h => by rw [h]⟩
  simp only [hlt, he]
theorem toInt_val {d : Datum} {a : Int} (ha : Val d a) (way : Toward) : d.toInt way = some a := by
  obtain ⟨s, i, rfl, hs⟩ := ha
  unfold Datum.toInt Datum.integral
  simp only
  have e1 : (-(i : Int)).toNat = 0 := by omega
  have e2 : (- -(i : Int)).toNat = i := by omega
  rw [e1, e2, Nat.shiftLeft_zero]
  have hc : way.cut s (a.natAbs * 2 ^ i) i = a.natAbs := by
    by_cases h0 : a.natAbs = 0
    · rw [h0, Nat.zero_mul]
      unfold Toward.cut
      cases way <;> simp
    · exact cut_exact _ _ _ _ (by rw [log2_mul _ _ h0]; omega)
  rw [hc]
  have := signed_val hs 0 0
  simp only [Nat.pow_zero, Nat.mul_one, Nat.add_zero] at this
  rw [this]
  simp
/-- What is written and read again has its value. -/
theorem write_val {d : Datum} {n : Int} (h : Val d n) (hn : n.natAbs < 2 ^ 53) : Val (double.read (double.write d)) n := by
  obtain ⟨s, k, rfl, hs⟩ := h
  by_cases h0 : n = 0
  · subst h0
    refine ⟨s, 1074, ?_, fun h => absurd rfl h⟩
    have e : double.write (.number s (Int.natAbs 0 * 2 ^ k) (-(k : Int))) = double.word s 0 := by
      show double.nearest _ _ _ = _
      unfold Format.nearest
      rw [if_pos (by simp)]
    rw [e]
    cases s
    · decide +kernel
    · decide +kernel
  · rw [hs h0, write_whole ⟨k, rfl⟩ hn]
    exact (read_fl hn).val

/-- A word's value is the whole number n. -/
def W (x : Nat) (n : Int) : Prop := Val (double.read x) n
theorem W.fl {n : Int} (hn : n.natAbs < 2 ^ 53) : W (fl n) n := (read_fl hn).val
theorem W.add {x y : Nat} {a b : Int} (hx : W x a) (hy : W y b) (hc : (a + b).natAbs < 2 ^ 53) : ∃ z, floatBits .add .f64 x y = some z ∧ W z (a + b) := by
  obtain ⟨f, h1, h2⟩ := sum_val hx hy
  exact ⟨_, by show Option.map _ ((double.read x).sum (double.read y)) = _; rw [h1]; rfl, write_val h2 hc⟩
theorem W.sub {x y : Nat} {a b : Int} (hx : W x a) (hy : W y b) (hc : (a - b).natAbs < 2 ^ 53) : ∃ z, floatBits .sub .f64 x y = some z ∧ W z (a - b) := by
  obtain ⟨f, h1, h2⟩ := sum_val hx (opposite_val hy)
  rw [← Int.sub_eq_add_neg] at h2
  exact ⟨_, by show Option.map _ ((double.read x).sum (double.read y).opposite) = _; rw [h1]; rfl, write_val h2 hc⟩
theorem W.mul {x y : Nat} {a b : Int} (hx : W x a) (hy : W y b) (hc : (a * b).natAbs < 2 ^ 53) : ∃ z, floatBits .mul .f64 x y = some z ∧ W z (a * b) := by
  obtain ⟨f, h1, h2⟩ := product_val hx hy
  exact ⟨_, by show Option.map _ ((double.read x).product (double.read y)) = _; rw [h1]; rfl, write_val h2 hc⟩
theorem W.order {x y : Nat} {a b : Int} (hx : W x a) (hy : W y b) : FloatKind.f64.format.order x y = some (compare a b) := order_val hx hy
theorem W.toInt {x : Nat} {a : Int} (hx : W x a) (ha : a.natAbs < 2 ^ 53) : floatToIntVal .f64 x .i64 = some a := by
  have h : (FloatKind.f64.decode x).toInt .zero = some a := toInt_val hx .zero
  unfold floatToIntVal
  rw [h]
  simp only
  rw [if_pos]
  have h1 : IntKind.i64.min = -9223372036854775808 := rfl
  have h2 : IntKind.i64.max = 9223372036854775807 := rfl
  rw [h1, h2]
  omega
theorem compare_eq_int (a b : Int) : (compare a b == Ordering.eq) = decide (a = b) := by
  rw [Bool.eq_iff_iff, beq_iff_eq, decide_eq_true_iff]
  exact Int.compare_eq_eq
/-- '==' of two numbers. -/
theorem W.eq {x y : Nat} {a b : Int} (hx : W x a) (hy : W y b) : (FloatKind.f64.format.order x y == some .eq) = decide (a = b) := by
  rw [hx.order hy, ← compare_eq_int]
  cases compare a b <;> rfl
theorem W.uniq {x : Nat} {a b : Int} (hx : W x a) (hy : W x b) : a = b := by
  have h1 := toInt_val hx .zero
  have h2 := toInt_val hy .zero
  rw [h1] at h2
  exact Option.some.inj h2

/-- A product by a number of two whole parts. -/
theorem W.cmul {x y u v : Nat} {a b c d : Int} (hx : W x a) (hy : W y b) (hu : W u c) (hv : W v d) (h1 : (a * c).natAbs < 2 ^ 53) (h2 : (b * d).natAbs < 2 ^ 53) (h3 : (a * c - b * d).natAbs < 2 ^ 53)
    (h4 : (a * d).natAbs < 2 ^ 53) (h5 : (b * c).natAbs < 2 ^ 53) (h6 : (a * d + b * c).natAbs < 2 ^ 53) : ∃ re im, cMulBits x y u v = some (re, im) ∧ W re (a * c - b * d) ∧ W im (a * d + b * c) := by
  obtain ⟨p, e1, p1⟩ := hx.mul hu h1
  obtain ⟨q, e2, q1⟩ := hy.mul hv h2
  obtain ⟨re, e3, r1⟩ := p1.sub q1 h3
  obtain ⟨s, e4, s1⟩ := hx.mul hv h4
  obtain ⟨t, e5, t1⟩ := hy.mul hu h5
  obtain ⟨im, e6, i1⟩ := s1.add t1 h6
  refine ⟨re, im, ?_, r1, i1⟩
  unfold cMulBits
  simp only [e1, e2, e3, e4, e5, e6, Option.bind_some]
theorem W.cadd {x y u v : Nat} {a b c d : Int} (hx : W x a) (hy : W y b) (hu : W u c) (hv : W v d) (h1 : (a + c).natAbs < 2 ^ 53) (h2 : (b + d).natAbs < 2 ^ 53) :
    ∃ re im, cSumBits .add .f64 x y u v = some (re, im) ∧ W re (a + c) ∧ W im (b + d) := by
  obtain ⟨p, e1, p1⟩ := hx.add hu h1
  obtain ⟨q, e2, q1⟩ := hy.add hv h2
  refine ⟨p, q, ?_, p1, q1⟩
  unfold cSumBits
  simp only [e1, e2, Option.bind_some]

/-! ### Which floats lie in a range, and are whole -/
theorem read_least {x : Nat} {s : Bool} {m : Nat} {e : Int} (h : double.read x = .number s m e) : -1074 ≤ e ∧ (0 < e → 2 ^ 52 ≤ m) := by
  unfold Format.read at h
  simp only at h
  have hlp : double.leastPlace = -1074 := rfl
  have hbn : double.binade = 2 ^ 52 := rfl
  split at h
  · injection h with h1 h2 h3
    rw [hlp] at h3
    omega
  · split at h
    · injection h with h1 h2 h3
      rw [hlp] at h3
      rw [hbn] at h2
      omega
    · split at h <;> cases h

/-- A float's tests: is it from 0 on, and below m? -/
def geB (x : Nat) : Bool := FloatKind.f64.format.order x 0 == some .gt || FloatKind.f64.format.order x 0 == some .eq
def ltB (x m : Nat) : Bool := FloatKind.f64.format.order x m == some .lt
theorem read_zero : double.read 0 = .number false 0 (-1074) := by decide +kernel
theorem val_zero (s : Bool) (k : Nat) : Val (.number s 0 (-(k : Int))) 0 := ⟨s, k, by rw [Int.natAbs_zero, Nat.zero_mul], fun h => absurd rfl h⟩
theorem zero_W : W 0 0 := by
  unfold W
  rw [read_zero]
  exact val_zero false 1074
theorem cut_zero (s : Bool) (m k : Nat) : Toward.zero.cut s m k = m / 2 ^ k := by
  unfold Toward.cut
  simp only [Bool.toNat_false, Nat.add_zero, Nat.shiftLeft_eq, Nat.one_mul]
  by_cases h : k ≤ m.log2 + 2
  · rw [Nat.min_eq_left h]
  · rw [Nat.min_eq_right (by omega)]
    have h1 : m < 2 ^ (m.log2 + 1) := Nat.lt_log2_self
    have h2 : 2 ^ (m.log2 + 1) ≤ 2 ^ (m.log2 + 2) := Nat.pow_le_pow_right (by omega) (by omega)
    have h3 : 2 ^ (m.log2 + 1) ≤ 2 ^ k := Nat.pow_le_pow_right (by omega) (by omega)
    rw [Nat.div_eq_of_lt (by omega), Nat.div_eq_of_lt (by omega)]

theorem compare_mul (a b : Int) {p : Int} (hp : 0 < p) : compare (a * p) (b * p) = compare a b := by
  simp only [compare, compareOfLessAndEq]
  have hlt : a * p < b * p ↔ a < b := Int.mul_lt_mul_right hp
  have he : a * p = b * p ↔ a = b := ⟨fun h => Int.eq_of_mul_eq_mul_right (by omega) h, fun h => by rw [h]⟩
  simp only [hlt, he]
theorem signed_add (s : Bool) (m u v : Nat) : signed s m (u + v) = signed s m u * ((2 ^ v : Nat) : Int) := by
  unfold signed
  simp only [Nat.shiftLeft_eq, Nat.pow_add, ← Nat.mul_assoc]
  cases s
  · simp
  · simp only [if_pos, Int.neg_mul]
    rw [Int.natCast_mul]
/-- A number against one whose value is whole, over whatever power of two serves. -/
theorem order_scaled {s : Bool} {m : Nat} {e : Int} {d : Datum} {n : Int} (hd : Val d n) (K : Nat) (hK : -(K : Int) ≤ e) :
    (Datum.number s m e).order d = some (compare (signed s m (e + K).toNat) (n * ((2 ^ K : Nat) : Int))) := by
  obtain ⟨t, k, rfl, ht⟩ := hd
  obtain ⟨B, hB⟩ : ∃ B : Nat, min e (-(k : Int)) = -(B : Int) := ⟨(-(min e (-(k : Int)))).toNat, by omega⟩
  show some (compare _ _) = _
  simp only [hB, signed_val ht]
  have e1 : k + (-(k : Int) - -(B : Int)).toNat = B := by omega
  rw [e1]
  have h1 := compare_mul (signed s m (e - -(B : Int)).toNat) (n * ((2 ^ B : Nat) : Int)) (p := ((2 ^ K : Nat) : Int)) (Int.natCast_pos.2 (Nat.two_pow_pos _))
  have h2 := compare_mul (signed s m (e + K).toNat) (n * ((2 ^ K : Nat) : Int)) (p := ((2 ^ B : Nat) : Int)) (Int.natCast_pos.2 (Nat.two_pow_pos _))
  rw [← h1, ← h2, ← signed_add, ← signed_add]
  have e2 : (e - -(B : Int)).toNat + K = (e + K).toNat + B := by omega
  have e3 : n * ((2 ^ B : Nat) : Int) * ((2 ^ K : Nat) : Int) = n * ((2 ^ K : Nat) : Int) * ((2 ^ B : Nat) : Int) := by
    rw [Int.mul_assoc, Int.mul_assoc, Int.mul_comm ((2 ^ B : Nat) : Int)]
  rw [e2, e3]

/-- Of one that lies there: the whole number that it is cut to; it is that one, or not. -/
theorem inside_val {x M : Nat} {N : Int} (hM : W M N) (hN : 0 ≤ N ∧ N < 2 ^ 52) (h1 : geB x = true) (h2 : ltB x M = true) :
    ∃ t : Int, 0 ≤ t ∧ t < N ∧ floatToIntVal .f64 x .i64 = some t ∧ ((FloatKind.f64.format.order x (fl t) == some .eq) = true → W x t) := by
  have hf : FloatKind.f64.format = double := rfl
  cases hx : double.read x with
  | nan s f =>
    exfalso
    unfold geB Format.order at h1
    rw [hf, hx] at h1
    simp [Datum.order] at h1
  | infinity s =>
    exfalso
    unfold geB Format.order at h1
    unfold ltB Format.order at h2
    rw [hf, hx, read_zero] at h1
    obtain ⟨u, k, hk, _⟩ := hM
    rw [hf, hx, hk] at h2
    cases s <;> simp [Datum.order] at h1 h2
  | number s m e =>
    obtain ⟨hl, hbig⟩ := read_least hx
    have ord : ∀ {b : Nat} {n : Int} (K : Nat), W b n → -(K : Int) ≤ e → FloatKind.f64.format.order x b = some (compare (signed s m (e + K).toNat) (n * ((2 ^ K : Nat) : Int))) := by
      intro b n K hb hK
      show (double.read x).order (double.read b) = _
      rw [hx]
      exact order_scaled hb K hK
    obtain ⟨K, hK0, hK1⟩ : ∃ K : Nat, -(K : Int) ≤ e ∧ ((K : Int) = -e ∨ (K = 0 ∧ 0 < e)) := by
      by_cases h : e ≤ 0
      · exact ⟨(-e).toNat, by omega, by omega⟩
      · exact ⟨0, by omega, by omega⟩
    obtain ⟨E, hE⟩ : ∃ E : Nat, (e + K).toNat = E := ⟨_, rfl⟩
    have hge : 0 ≤ signed s m E := by
      unfold geB at h1
      rw [ord K zero_W hK0, Int.zero_mul, hE] at h1
      by_cases hc : signed s m E < 0
      · rw [show compare (signed s m E) 0 = Ordering.lt from Int.compare_eq_lt.2 hc] at h1
        simp at h1
      · omega
    have hpow : 0 < 2 ^ E := Nat.two_pow_pos E
    have hmag : ∀ u, signed s m u = ((m * 2 ^ u : Nat) : Int) := by
      intro u
      unfold signed at hge ⊢
      simp only [Nat.shiftLeft_eq] at hge ⊢
      cases s
      · simp
      · simp only [if_pos] at hge ⊢
        have h3 : m * 2 ^ E = 0 := by omega
        have h4 : m = 0 := by
          rcases Nat.mul_eq_zero.1 h3 with h | h
          · exact h
          · omega
        rw [h4, Nat.zero_mul]
        rfl
    have hlt : ((m * 2 ^ E : Nat) : Int) < N * ((2 ^ K : Nat) : Int) := by
      unfold ltB at h2
      rw [ord K hM hK0, hE, hmag] at h2
      have h3 : compare ((m * 2 ^ E : Nat) : Int) (N * ((2 ^ K : Nat) : Int)) = .lt := by
        have := beq_iff_eq.1 h2
        exact Option.some.inj this
      exact Int.compare_eq_lt.1 h3
    rcases hK1 with hK1 | ⟨rfl, hpos⟩
    · have hE0 : E = 0 := by omega
      subst hE0
      rw [Nat.pow_zero, Nat.mul_one] at hlt
      obtain rfl : e = -(K : Int) := by omega
      have hP : 0 < 2 ^ K := Nat.two_pow_pos K
      obtain ⟨q, hq⟩ : ∃ q, m / 2 ^ K = q := ⟨_, rfl⟩
      have hdiv : q * 2 ^ K ≤ m := by rw [← hq]; exact Nat.div_mul_le_self _ _
      have htN : ((q : Nat) : Int) < N := by
        have h5 : ((q : Nat) : Int) * ((2 ^ K : Nat) : Int) < N * ((2 ^ K : Nat) : Int) := by
          rw [← Int.natCast_mul]
          omega
        exact (Int.mul_lt_mul_right (by omega)).1 h5
      refine ⟨((q : Nat) : Int), by omega, htN, ?_, fun h3 => ?_⟩
      · have h6 : (FloatKind.f64.decode x).toInt .zero = some ((q : Nat) : Int) := by
          show (double.read x).toInt .zero = _
          rw [hx]
          unfold Datum.toInt Datum.integral
          simp only
          have e1 : (-(K : Int)).toNat = 0 := by omega
          have e2 : (- -(K : Int)).toNat = K := by omega
          rw [e1, e2, Nat.shiftLeft_zero, cut_zero, hq]
          have h7 := hmag 0
          unfold signed at h7 ⊢
          simp only [Nat.shiftLeft_zero, Nat.pow_zero, Nat.mul_one] at h7 ⊢
          cases s
          · rfl
          · simp only [if_pos] at h7 ⊢
            have h8 : m = 0 := by omega
            rw [h8, Nat.zero_div] at hq
            rw [← hq]
            rfl
        unfold floatToIntVal
        rw [h6]
        simp only
        rw [if_pos]
        have h1 : IntKind.i64.min = -9223372036854775808 := rfl
        have h2 : IntKind.i64.max = 9223372036854775807 := rfl
        rw [h1, h2]
        have h9 : (2 : Int) ^ 52 = 4503599627370496 := rfl
        rw [h9] at hN
        omega
      · have hw : W (fl ((q : Nat) : Int)) ((q : Nat) : Int) := W.fl (by
          have h9 : (2 : Int) ^ 52 = 4503599627370496 := rfl
          have h10 : (2 : Nat) ^ 53 = 9007199254740992 := rfl
          rw [h9] at hN
          rw [h10]
          omega)
        rw [ord K hw hK0, hE, hmag, Nat.pow_zero, Nat.mul_one] at h3
        have h4 : compare (m : Int) (((q : Nat) : Int) * ((2 ^ K : Nat) : Int)) = .eq := Option.some.inj (beq_iff_eq.1 h3)
        have h5 := Int.compare_eq_eq.1 h4
        rw [← Int.natCast_mul] at h5
        have h6 : m = q * 2 ^ K := Int.ofNat.inj h5
        refine ⟨s, K, ?_, fun h0 => ?_⟩
        · rw [hx, Int.natAbs_natCast, ← h6]
        · cases s
          · symm
            rw [decide_eq_false_iff_not]
            omega
          · exfalso
            have h7 := hmag 0
            unfold signed at h7
            simp only [Nat.shiftLeft_zero, Nat.pow_zero, Nat.mul_one, if_pos] at h7
            have h8 : m = 0 := by omega
            rw [h8, Nat.zero_div] at hq
            rw [← hq] at h0
            exact h0 rfl
    · exfalso
      have h3 := hbig hpos
      have h4 : 2 ^ 52 * 1 ≤ m * 2 ^ E := Nat.mul_le_mul h3 hpow
      rw [Nat.pow_zero] at hlt
      have h9 : (2 : Int) ^ 52 = 4503599627370496 := rfl
      have h10 : (2 : Nat) ^ 52 = 4503599627370496 := rfl
      rw [h9] at hN
      rw [h10] at h4
      omega
/-- One whose value is whole, and lies there, passes. -/
theorem W.ge {x : Nat} {n : Int} (h : W x n) (hn : 0 ≤ n) : geB x = true := by
  unfold geB
  rw [h.order zero_W]
  by_cases h0 : n = 0
  · rw [show compare n 0 = Ordering.eq from Int.compare_eq_eq.2 h0]; rfl
  · rw [show compare n 0 = Ordering.gt from Int.compare_eq_gt.2 (by omega)]; rfl
theorem W.lt {x M : Nat} {n N : Int} (h : W x n) (hM : W M N) (hn : n < N) : ltB x M = true := by
  unfold ltB
  rw [h.order hM, show compare n N = Ordering.lt from Int.compare_eq_lt.2 hn]
  rfl
end Go.Proofs.YtcpdjhkpmaamdaaGreat.Ga

namespace Go.Proofs.YtcpdjhkpmaamdaaGreat.Ga
/-- Both parts lie from 0 to 10006. -/
def InP (p : Int × Int) : Prop := (0 ≤ p.1 ∧ p.1 ≤ 10006) ∧ 0 ≤ p.2 ∧ p.2 ≤ 10006
def nextP (p : Int × Int) (c : Int) : Int × Int := ((p.1 * 3 - p.2 * 5 + (c + 1)) % 10007, (p.1 * 5 + p.2 * 3) % 10007)
def chainP (p : Int × Int) (l : List Int) : Int × Int := l.foldl nextP p
theorem nextP_in (p : Int × Int) (c : Int) : InP (nextP p c) := by
  unfold InP nextP
  simp only
  omega
theorem chainP_nil (p : Int × Int) : chainP p [] = p := rfl
theorem chainP_cons (p : Int × Int) (c : Int) (l : List Int) : chainP p (c :: l) = chainP (nextP p c) l := rfl
theorem chainP_append (p : Int × Int) (l m : List Int) : chainP p (l ++ m) = chainP (chainP p l) m := List.foldl_append
theorem chainP_snoc (p : Int × Int) (l : List Int) (c : Int) : chainP p (l ++ [c]) = nextP (chainP p l) c := by rw [chainP_append]; rfl
theorem chainP_in {p : Int × Int} (h : InP p) (l : List Int) : InP (chainP p l) := by
  induction l generalizing p with
  | nil => exact h
  | cons c l ih => exact ih (nextP_in p c)

/-! ### Apart -/
theorem nextP_byte {p : Int × Int} {x y : Int} (hx : 0 ≤ x ∧ x ≤ 255) (hy : 0 ≤ y ∧ y ≤ 255) (h : nextP p x = nextP p y) : x = y := by
  have h1 := congrArg Prod.fst h
  simp only [nextP] at h1
  omega
theorem by_34 {u k : Int} (h : u * 34 = 10007 * k) (hu : -10007 < u ∧ u < 10007) : u = 0 := by omega
theorem same_rest {a b : Int} (h : a % 10007 = b % 10007) : ∃ k, a - b = 10007 * k := ⟨a / 10007 - b / 10007, by omega⟩
theorem same_rest_of {a b k : Int} (h : a - b = 10007 * k) : a % 10007 = b % 10007 := by omega
theorem rest_same {a b c d k : Int} (h : a - b - (c - d) = 10007 * k) : (a % 10007 - b % 10007) % 10007 = (c % 10007 - d % 10007) % 10007 := by
  rw [← Int.sub_emod, ← Int.sub_emod]
  exact same_rest_of h
theorem two_rests {u v k l : Int} (h1 : u * 3 - v * 5 = 10007 * k) (h2 : u * 5 + v * 3 = 10007 * l) (hu : -10007 < u ∧ u < 10007) (hv : -10007 < v ∧ v < 10007) : u = 0 ∧ v = 0 :=
  ⟨by_34 (k := 3 * k + 5 * l) (by omega) hu, by_34 (k := 3 * l - 5 * k) (by omega) hv⟩
theorem same_pair {a b c d : Int} (h1 : a - c = 0) (h2 : b - d = 0) : a = c ∧ b = d := ⟨by omega, by omega⟩
theorem two_rests' {a b c d x k l : Int} (h1 : a * 3 - b * 5 + (x + 1) - (c * 3 - d * 5 + (x + 1)) = 10007 * k) (h2 : a * 5 + b * 3 - (c * 5 + d * 3) = 10007 * l)
    (ha : 0 ≤ a ∧ a ≤ 10006) (hb : 0 ≤ b ∧ b ≤ 10006) (hc : 0 ≤ c ∧ c ≤ 10006) (hd : 0 ≤ d ∧ d ≤ 10006) : a = c ∧ b = d := by
  have h3 : (a - c) * 3 - (b - d) * 5 = 10007 * k := by rw [← h1, Int.sub_mul, Int.sub_mul]; clear h1 h2; omega
  have h4 : (a - c) * 5 + (b - d) * 3 = 10007 * l := by rw [← h2, Int.sub_mul, Int.sub_mul]; clear h1 h2; omega
  clear h1 h2
  have hu : -10007 < a - c ∧ a - c < 10007 := by clear h3 h4; omega
  have hv : -10007 < b - d ∧ b - d < 10007 := by clear h3 h4; omega
  obtain ⟨h5, h6⟩ := two_rests h3 h4 hu hv
  exact same_pair h5 h6
theorem nextP_point {p q : Int × Int} {x : Int} (hp : InP p) (hq : InP q) (h : nextP p x = nextP q x) : p = q := by
  obtain ⟨a, b⟩ := p
  obtain ⟨c, d⟩ := q
  obtain ⟨k, hk⟩ := same_rest (congrArg Prod.fst h)
  obtain ⟨l, hl⟩ := same_rest (congrArg Prod.snd h)
  obtain ⟨rfl, rfl⟩ := two_rests' hk hl hp.1 hp.2 hq.1 hq.2
  rfl
theorem chainP_point {p q : Int × Int} (hp : InP p) (hq : InP q) (l : List Int) (h : chainP p l = chainP q l) : p = q := by
  induction l generalizing p q with
  | nil => exact h
  | cons c l ih => exact nextP_point hp hq (ih (nextP_in _ _) (nextP_in _ _) h)
/-- With one byte that is another one a chain leads elsewhere. -/
theorem chainP_set {p : Int × Int} {l : List Int} {k : Nat} {x : Int} (hk : k < l.length) (hb : Byt l) (hx : 0 ≤ x ∧ x ≤ 255) (hne : x ≠ l[k]?.getD 0) : chainP p (l.set k x) ≠ chainP p l := by
  intro h
  have e1 : l = l.take k ++ l[k]?.getD 0 :: l.drop (k + 1) := by
    have : l.drop k = l[k]?.getD 0 :: l.drop (k + 1) := by rw [List.drop_eq_getElem_cons hk, List.getElem?_eq_getElem hk]; rfl
    rw [← this, List.take_append_drop]
  have e2 : l.set k x = l.take k ++ x :: l.drop (k + 1) := by
    rw [List.set_eq_take_append_cons_drop, if_pos hk]
  rw [e2] at h
  conv at h => rhs; rw [e1]
  rw [chainP_append, chainP_append, chainP_cons, chainP_cons] at h
  have h1 := chainP_point (nextP_in _ _) (nextP_in _ _) _ h
  exact hne (nextP_byte hx (hb.at_ k) h1)

/-! ### The way apart -/
def apartP (p q : Int × Int) : Int × Int := ((p.1 - q.1) % 10007, (p.2 - q.2) % 10007)
theorem apartP_next {p q p' q' : Int × Int} (h : apartP p q = apartP p' q') (x y : Int) : apartP (nextP p x) (nextP q x) = apartP (nextP p' y) (nextP q' y) := by
  obtain ⟨k, hk⟩ := same_rest (congrArg Prod.fst h)
  obtain ⟨l, hl⟩ := same_rest (congrArg Prod.snd h)
  clear h
  simp only [apartP, nextP]
  refine Prod.ext ?_ ?_
  · simp only
    exact rest_same (k := 3 * k - 5 * l) (by omega)
  · simp only
    exact rest_same (k := 5 * k + 3 * l) (by omega)
theorem apartP_chain (l : List Int) : ∀ (m : List Int) {p q p' q' : Int × Int}, l.length = m.length → apartP p q = apartP p' q' → apartP (chainP p l) (chainP q l) = apartP (chainP p' m) (chainP q' m) := by
  induction l with
  | nil =>
    intro m p q p' q' hl h
    cases m with
    | nil => exact h
    | cons c m => simp at hl
  | cons c l ih =>
    intro m p q p' q' hl h
    cases m with
    | nil => simp at hl
    | cons d m => exact ih m (by simpa using hl) (apartP_next h c d)

/-! ### A point's four bytes -/
def bytesP (p : Int × Int) : List Int := [p.1 / 256, p.1 % 256, p.2 / 256, p.2 % 256]
end Go.Proofs.YtcpdjhkpmaamdaaGreat.Ga

namespace Go.Proofs.YtcpdjhkpmaamdaaGreat.Ga
open Go.RowKit

theorem side_W : W 4666727020758040576 10007 := by
  have h := W.fl (n := 10007) (by decide)
  have e : fl 10007 = 4666727020758040576 := by decide +kernel
  rwa [e] at h

/-- May it be a point's part? -/
def inB (x : Nat) : Bool := geB x && ltB x 4666727020758040576 && (match floatToIntVal .f64 x .i64 with | some t => FloatKind.f64.format.order x (fl t) == some .eq | none => false)
theorem inB_yes {x : Nat} {n : Int} (h : W x n) (hn : 0 ≤ n ∧ n ≤ 10006) : inB x = true := by
  unfold inB
  rw [h.ge hn.1, h.lt side_W (by omega), h.toInt (by omega)]
  simp only [Bool.and_true]
  rw [h.eq (W.fl (by omega))]
  simp
theorem inB_of {x : Nat} (h : inB x = true) : ∃ n, W x n ∧ 0 ≤ n ∧ n ≤ 10006 := by
  unfold inB at h
  rw [Bool.and_eq_true, Bool.and_eq_true] at h
  obtain ⟨⟨h1, h2⟩, h3⟩ := h
  obtain ⟨t, t0, t1, ht, hw⟩ := inside_val side_W (by decide) h1 h2
  rw [ht] at h3
  exact ⟨t, hw h3, t0, by omega⟩

theorem ge_yes {x : Nat} (h : geB x = true) : (FloatKind.f64.format.order x 0 = some .gt) ∨ FloatKind.f64.format.order x 0 = some .eq := by
  unfold geB at h
  simpa using h
theorem ge_no {x : Nat} (h : geB x = false) : (FloatKind.f64.format.order x 0 = some .lt) ∨ FloatKind.f64.format.order x 0 = none := by
  unfold geB at h
  cases he : FloatKind.f64.format.order x 0 with
  | none => exact .inr rfl
  | some o => cases o <;> rw [he] at h <;> simp at h ⊢
theorem lt_yes {x m : Nat} (h : ltB x m = true) : FloatKind.f64.format.order x m = some .lt := by
  unfold ltB at h
  simpa using h
theorem lt_no {x m : Nat} (h : ltB x m = false) : (FloatKind.f64.format.order x m == some .lt) = false := h

set_option maxRecDepth 100000 in
set_option maxHeartbeats 400000 in
theorem inside_any (x : Nat) (w : World) :
    Calls Tryz.prog 161 #[.float .f64 x] w fun e w' => e = .returned (.bool (inB x)) ∧ w = w' := by
  cases h1 : geB x
  · have Hf : Hid (inB x = false) := by unfold inB; rw [h1]; rfl
    rcases ge_no h1 with h | h
    all_goals
      clear h1
      go_enter Tryz.func161, Tryz.ntmps161
      go_wp2
      go_ret
      exact ⟨ret_bool (by rw [Hf.out]), rfl⟩
  · cases h2 : ltB x 4666727020758040576
    · have Hf : Hid (inB x = false) := by unfold inB; rw [h1, h2]; rfl
      have h3 := lt_no h2
      rcases ge_yes h1 with h | h
      all_goals
        clear h1 h2
        go_enter Tryz.func161, Tryz.ntmps161
        go_wp2
        go_ret
        exact ⟨ret_bool (by rw [Hf.out]), rfl⟩
    · obtain ⟨t, t0, t1, ht, _⟩ := inside_val side_W (by decide) h1 h2
      have Hf : Hid (inB x = (FloatKind.f64.format.order x (fl t) == some .eq)) := by unfold inB; rw [h1, h2, ht]; rfl
      have hc : ∀ w, (convert 103 3 (.float .f64 x)).run Tryz.prog w = .ok (.int .i64 t) w := fun w => run_convert_float_int w 103 3 .f64 .i64 x t (by rw [Tryz.underlying103]; rfl) Tryz.underlying3 ht
      have h3 := lt_yes h2
      rcases ge_yes h1 with h | h
      all_goals
        clear h1 h2 ht
        go_enter Tryz.func161, Tryz.ntmps161
        go_wp2_with (simp only [hc])
        all_goals
          go_ret
          exact ⟨ret_bool (by rw [Hf.out]; rfl), rfl⟩

/-- A number of two whole parts that is a point. -/
structure Pt (x y : Nat) (p : Int × Int) : Prop where
  re : W x p.1
  im : W y p.2
  ok : InP p
def ptB (x y : Nat) : Bool := inB x && inB y
theorem Pt.yes {x y : Nat} {p : Int × Int} (h : Pt x y p) : ptB x y = true := by
  unfold ptB
  rw [inB_yes h.re h.ok.1, inB_yes h.im h.ok.2]
  rfl
theorem Pt.of {x y : Nat} (h : ptB x y = true) : ∃ p, Pt x y p := by
  unfold ptB at h
  rw [Bool.and_eq_true] at h
  obtain ⟨n, h1, h2⟩ := inB_of h.1
  obtain ⟨m, h3, h4⟩ := inB_of h.2
  exact ⟨(n, m), h1, h3, h2, h4⟩
theorem Pt.fl {p : Int × Int} (h : InP p) : Pt (fl p.1) (fl p.2) p := ⟨W.fl (by have := h.1; omega), W.fl (by have := h.2; omega), h⟩
theorem Pt.zero : Pt 0 0 (0, 0) := ⟨zero_W, zero_W, by unfold InP; simp⟩

set_option maxRecDepth 100000 in
set_option maxHeartbeats 400000 in
theorem right_any (x y : Nat) (w : World) :
    Calls Tryz.prog 152 #[.complex .f64 x y] w fun e w' => e = .returned (.bool (ptB x y)) ∧ w = w' := by
  cases h1 : inB x
  · have Hf : Hid (ptB x y = false) := by unfold ptB; rw [h1]; rfl
    have H1 := Lib.hid h1
    clear h1
    go_enter Tryz.func152, Tryz.ntmps152
    go_wp2_with (go_at_call 161; refine (inside_any _ _).mono ?_; rintro e w' ⟨rfl, rfl⟩; rw [H1.out])
    go_ret
    exact ⟨ret_bool (by rw [Hf.out]), rfl⟩
  · have Hf : Hid (ptB x y = inB y) := by unfold ptB; rw [h1]; rfl
    have H1 := Lib.hid h1
    clear h1
    go_enter Tryz.func152, Tryz.ntmps152
    go_wp2_with fail
    refine (inside_any _ _).mono ?_
    rintro e w' ⟨rfl, rfl⟩
    rw [H1.out]
    go_wp2_with fail
    refine (inside_any _ _).mono ?_
    rintro e w' ⟨rfl, rfl⟩
    go_wp2_with fail
    go_ret
    exact ⟨ret_bool (by rw [Hf.out]), rfl⟩
theorem right_yes {x y : Nat} {p : Int × Int} (h : Pt x y p) (w : World) :
    Calls Tryz.prog 152 #[.complex .f64 x y] w fun e w' => e = .returned (.bool true) ∧ w = w' := by
  have := right_any x y w
  rwa [h.yes] at this
theorem right_no {x y : Nat} (h : ptB x y = false) (w : World) :
    Calls Tryz.prog 152 #[.complex .f64 x y] w fun e w' => e = .returned (.bool false) ∧ w = w' := by
  have := right_any x y w
  rwa [h] at this

theorem fl_256 : fl 256 = 4643211215818981376 := by decide +kernel
end Go.Proofs.YtcpdjhkpmaamdaaGreat.Ga

namespace Go.Proofs.YtcpdjhkpmaamdaaGreat.Ga
open Go.RowKit

theorem tmod_neg {n : Int} (h : n < 0) : n.tmod 10007 = -(-n % 10007) := by
  have h1 := Int.neg_tmod (-n) 10007
  rw [Int.neg_neg, Int.tmod_eq_emod_of_nonneg (a := -n) (by omega)] at h1
  exact h1
/-- What Go's rest of a number below 0 comes to, and what is made of it. -/
theorem rest_neg {n : Int} (h : n < 0) : ∃ m : Int, n.tmod 10007 = m ∧ -10007 < m ∧ m < 10007 ∧ ((m < 0 ∧ m + 10007 = n % 10007) ∨ (¬ m < 0 ∧ m = n % 10007)) := by
  refine ⟨_, tmod_neg h, ?_⟩
  omega

set_option maxRecDepth 100000 in
set_option maxHeartbeats 400000 in
theorem rest_any (x bm : Nat) (n : Int) (w : World) (hx : W x n) (hn : -1000000 ≤ n ∧ n ≤ 1000000) (hc : w.cell? ⟨bm, 0, none⟩ = some (.int .i64 10007)) :
    Calls Tryz.prog 162 #[.float .f64 x, .pointer (some ⟨bm, 0, none⟩)] w fun e w' => e = .returned (.float .f64 (fl (n % 10007))) ∧ w = w' := by
  have c1 : ∀ w, (convert 103 3 (.float .f64 x)).run Tryz.prog w = .ok (.int .i64 n) w := fun w => run_convert_float_int w 103 3 .f64 .i64 x n (by rw [Tryz.underlying103]; rfl) Tryz.underlying3 (hx.toInt (by omega))
  have c2 : ∀ w n, (convert 3 103 (.int .i64 n)).run Tryz.prog w = .ok (.float .f64 (floatOfInt .f64 n)) w := fun w n => run_convert_int_float w 3 103 .i64 .f64 n (by rw [Tryz.underlying3]; rfl) Tryz.underlying103
  by_cases h0 : 0 ≤ n
  · go_enter Tryz.func162, Tryz.ntmps162
    go_wp2_with (simp only [c1, c2])
    all_goals
      go_ret
      exact ⟨rfl, rfl⟩
  · obtain ⟨m, hm, m0, m1, ⟨h1, hf⟩ | ⟨h1, hf⟩⟩ := rest_neg (show n < 0 by omega)
    · have Hf := Lib.hid hf
      clear hf
      go_enter Tryz.func162, Tryz.ntmps162
      go_wp2_with (simp only [c1, c2])
      all_goals
        go_ret
        exact ⟨by rw [← Hf.out]; rfl, rfl⟩
    · have Hf := Lib.hid hf
      clear hf
      go_enter Tryz.func162, Tryz.ntmps162
      go_wp2_with (simp only [c1, c2])
      all_goals
        go_ret
        exact ⟨by rw [← Hf.out]; rfl, rfl⟩

/-- restBy's closure, and what it has captured. -/
def restV (bm : Nat) : Value := .func (.func 162) #[] #[.pointer (some ⟨bm, 0, none⟩)]
def RestOut (w : World) (e : Ending) (w' : World) : Prop := e = .returned (restV w.heap.size) ∧ Boxed w' w.heap.size 3 (.int .i64 10007) ∧ w'.heap.size = w.heap.size + 1 ∧ Below w.heap.size w w'

set_option maxRecDepth 100000 in
set_option maxHeartbeats 400000 in
theorem restBy_any (w : World) : Calls Tryz.prog 153 #[.int .i64 10007] w (RestOut w) := by
  go_enter Tryz.func153, Tryz.ntmps153
  go_wp2
  go_ret
  exact ⟨rfl, Boxed.new w _ _, by simp, (Below.refl _ w).alloc (Nat.le_refl _) _⟩

theorem three_W : W 4613937818241073152 3 := by
  have h := W.fl (n := 3) (by decide)
  have e : fl 3 = 4613937818241073152 := by decide +kernel
  rwa [e] at h
theorem five_W : W 4617315517961601024 5 := by
  have h := W.fl (n := 5) (by decide)
  have e : fl 5 = 4617315517961601024 := by decide +kernel
  rwa [e] at h
theorem one_W : W 4607182418800017408 1 := by
  have h := W.fl (n := 1) (by decide)
  have e : fl 1 = 4607182418800017408 := by decide +kernel
  rwa [e] at h

set_option maxRecDepth 100000 in
set_option maxHeartbeats 400000 in
theorem step_any {x y bm : Nat} {p : Int × Int} {c : Int} (w : World) (hp : Pt x y p) (hb : 0 ≤ c ∧ c ≤ 255) (hc : w.cell? ⟨bm, 0, none⟩ = some (.int .i64 10007)) :
    Calls Tryz.prog 155 #[.complex .f64 x y, .int .u8 c, restV bm] w fun e w' => e = .returned (.complex .f64 (fl (nextP p c).1) (fl (nextP p c).2)) ∧ w = w' := by
  obtain ⟨hx, hy, ⟨a0, a1⟩, b0, b1⟩ := hp
  have k53 : (2 : Nat) ^ 53 = 9007199254740992 := rfl
  obtain ⟨u, v, h1, hu, hv⟩ := hx.cmul hy three_W five_W (by rw [k53]; omega) (by rw [k53]; omega) (by rw [k53]; omega) (by rw [k53]; omega) (by rw [k53]; omega) (by rw [k53]; omega)
  obtain ⟨s, h2, hs⟩ := (W.fl (n := c) (by rw [k53]; omega)).add one_W (by rw [k53]; omega)
  obtain ⟨u', v', h3, hu', hv'⟩ := hu.cadd hv hs zero_W (by rw [k53]; omega) (by rw [k53]; omega)
  have r1 := fun w => run_complex_mul (P := Tryz.prog) w 68 _ _ _ _ _ _ h1
  have r2 := fun w => run_float_arith (P := Tryz.prog) w .add 103 .f64 _ _ _ h2
  have r3 := fun w => run_complex_sum (P := Tryz.prog) w .add (.inl rfl) 68 .f64 _ _ _ _ _ _ h3
  have c1 : ∀ w, (convert 5 103 (.int .u8 c)).run Tryz.prog w = .ok (.float .f64 (fl c)) w := fun w => run_convert_int_float w 5 103 .u8 .f64 c (by rw [Tryz.underlying5]; rfl) Tryz.underlying103
  clear h1 h2 h3 k53 hx hy
  unfold restV
  go_enter Tryz.func155, Tryz.ntmps155
  go_wp2_with (simp only [c1, r1, r2, r3])
  refine (rest_any _ _ _ _ hu' (by omega) hc).mono ?_
  rintro e w' ⟨rfl, rfl⟩
  go_wp2_with fail
  refine (rest_any _ _ _ _ hv' (by omega) hc).mono ?_
  rintro e w' ⟨rfl, rfl⟩
  go_wp2_with fail
  go_ret
  exact ⟨rfl, rfl⟩

theorem pt_no_zero {x y : Nat} (h : ptB x y = false) (p : Int × Int) : ¬ Pt x y p := fun hp => by
  rw [hp.yes] at h
  cases h
end Go.Proofs.YtcpdjhkpmaamdaaGreat.Ga

namespace Go.Proofs.YtcpdjhkpmaamdaaGreat.Ga
open Go.RowKit

def agg4 (l : List Int) : Value := .agg (l.map (Value.int .u8)).toArray

set_option maxRecDepth 100000 in
set_option maxHeartbeats 400000 in
theorem bytes_no {x y : Nat} (w : World) (hp : ptB x y = false) :
    Calls Tryz.prog 160 #[.complex .f64 x y] w fun e w' => e = .returned (agg4 [0, 0, 0, 0]) ∧ Below w.heap.size w w' := by
  have Hp := Lib.hid hp
  clear hp
  go_enter Tryz.func160, Tryz.ntmps160
  go_wp2_with fail
  refine (right_no Hp.out _).mono ?_
  rintro e w' ⟨rfl, rfl⟩
  go_wp2_with fail
  exact bodyPost_ret (v := .agg #[.int .u8 0, .int .u8 0, .int .u8 0, .int .u8 0]) (by simp [results, Tryz.results160, go_sem]) rfl ⟨rfl, (Below.refl _ _).alloc (Nat.le_refl _) _⟩

set_option maxRecDepth 100000 in
set_option maxHeartbeats 400000 in
theorem bytes_yes {x y : Nat} {p : Int × Int} (w : World) (hp : Pt x y p) :
    Calls Tryz.prog 160 #[.complex .f64 x y] w fun e w' => e = .returned (agg4 (bytesP p)) ∧ Below w.heap.size w w' := by
  obtain ⟨hx, hy, ⟨a0, a1⟩, b0, b1⟩ := id hp
  have c1 : ∀ w, (convert 103 3 (.float .f64 x)).run Tryz.prog w = .ok (.int .i64 p.1) w := fun w => run_convert_float_int w 103 3 .f64 .i64 x _ (by rw [Tryz.underlying103]; rfl) Tryz.underlying3 (hx.toInt (by omega))
  have c2 : ∀ w, (convert 103 3 (.float .f64 y)).run Tryz.prog w = .ok (.int .i64 p.2) w := fun w => run_convert_float_int w 103 3 .f64 .i64 y _ (by rw [Tryz.underlying103]; rfl) Tryz.underlying3 (hy.toInt (by omega))
  go_enter Tryz.func160, Tryz.ntmps160
  go_wp2_with fail
  refine (right_yes hp _).mono ?_
  rintro e w' ⟨rfl, rfl⟩
  go_wp2_with fail
  exact bodyPost_ret (v := agg4 (bytesP p)) (by simp [results, Tryz.results160, go_sem]; rfl) rfl ⟨rfl, (Below.refl _ _).alloc (Nat.le_refl _) _⟩

theorem inP_mk {a b : Int} (h1 : 0 ≤ a) (h2 : a ≤ 10006) (h3 : 0 ≤ b) (h4 : b ≤ 10006) : InP (a, b) := ⟨⟨h1, h2⟩, h3, h4⟩
theorem ofP_no {a b c d : Int} (h : 10006 < a * 256 + b ∨ 10006 < c * 256 + d) (ha : 0 ≤ a ∧ a ≤ 255) (hb : 0 ≤ b ∧ b ≤ 255) (hc : 0 ≤ c ∧ c ≤ 255) (hd : 0 ≤ d ∧ d ≤ 255) : ptB (fl (a * 256 + b)) (fl (c * 256 + d)) = false := by
  cases hp : ptB (fl (a * 256 + b)) (fl (c * 256 + d))
  · rfl
  · obtain ⟨p, h1, h2, ⟨_, h3⟩, _, h4⟩ := Pt.of hp
    have e1 := (W.fl (n := a * 256 + b) (by omega)).uniq h1
    have e2 := (W.fl (n := c * 256 + d) (by omega)).uniq h2
    omega
end Go.Proofs.YtcpdjhkpmaamdaaGreat.Ga

namespace Go.Proofs.YtcpdjhkpmaamdaaGreat.Ga
open Go.RowKit

theorem inB_no {x : Nat} (h : inB x = false) {n : Int} (hw : W x n) (hn : 0 ≤ n ∧ n ≤ 10006) : False := by
  rw [inB_yes hw hn] at h
  cases h

theorem int_eq_turned (a b : Int) : (compare a b == Ordering.eq) = (compare b a == Ordering.eq) := by
  rw [compare_eq_int, compare_eq_int, decide_eq_decide]
  exact eq_comm
theorem some_eq_eq (o : Ordering) : (some o == some Ordering.eq) = (o == Ordering.eq) := by cases o <;> rfl
open Ieee in
/-- '==' the other way about. -/
theorem eq_turned (x y : Nat) : (FloatKind.f64.format.order x y == some .eq) = (FloatKind.f64.format.order y x == some .eq) := by
  show ((double.read x).order (double.read y) == some .eq) = ((double.read y).order (double.read x) == some .eq)
  generalize double.read x = d
  generalize double.read y = e
  cases d with
  | nan s f => cases e <;> rfl
  | infinity s =>
    cases e with
    | nan _ _ => rfl
    | infinity t => cases s <;> cases t <;> rfl
    | number t m i => cases s <;> rfl
  | number s m i =>
    cases e with
    | nan _ _ => rfl
    | infinity t => cases t <;> rfl
    | number t n j =>
      simp only [Datum.order, some_eq_eq]
      rw [int_eq_turned, show min j i = min i j from Int.min_comm j i]

/-- What the document's part answers: the number, and whether it is one. -/
def PartOut (x : Nat) (e : Ending) : Prop := ∃ t : Int, e = .returned (.tuple #[.int .i64 t, .bool (inB x)]) ∧ (inB x = true → W x t ∧ 0 ≤ t ∧ t ≤ 10006)

set_option maxRecDepth 100000 in
set_option maxHeartbeats 400000 in
theorem rpart_any (x : Nat) (w : World) :
    Calls Tryz.prog 65 #[.float .f64 x] w fun e w' => PartOut x e ∧ w = w' := by
  cases h1 : geB x
  · have Hf : Hid (inB x = false) := by unfold inB; rw [h1]; rfl
    rcases ge_no h1 with h | h
    all_goals
      clear h1
      go_enter Tryz.func65, Tryz.ntmps65
      go_wp2
      go_ret2
      exact ⟨⟨0, by rw [Hf.out]; rfl, fun h => by rw [Hf.out] at h; cases h⟩, rfl⟩
  · cases h2 : ltB x 4666727020758040576
    · have Hf : Hid (inB x = false) := by unfold inB; rw [h1, h2]; rfl
      have h3 := lt_no h2
      rcases ge_yes h1 with h | h
      all_goals
        clear h1 h2
        go_enter Tryz.func65, Tryz.ntmps65
        go_wp2
        go_ret2
        exact ⟨⟨0, by rw [Hf.out]; rfl, fun h => by rw [Hf.out] at h; cases h⟩, rfl⟩
    · obtain ⟨t, t0, t1, ht, hw⟩ := inside_val side_W (by decide) h1 h2
      have Hw := Lib.hid hw
      clear hw
      have Hf : Hid (inB x = (FloatKind.f64.format.order x (fl t) == some .eq)) := by unfold inB; rw [h1, h2, ht]; rfl
      have hc : ∀ w, (convert 103 3 (.float .f64 x)).run Tryz.prog w = .ok (.int .i64 t) w := fun w => run_convert_float_int w 103 3 .f64 .i64 x t (by rw [Tryz.underlying103]; rfl) Tryz.underlying3 ht
      have h3 := lt_yes h2
      -- '==' the other way about
      have Hs : Hid ((FloatKind.f64.format.order (fl t) x == some .eq) = (FloatKind.f64.format.order x (fl t) == some .eq)) := Lib.hid (eq_turned (fl t) x)
      rcases ge_yes h1 with h | h
      all_goals
        clear h1 h2 ht
        go_enter Tryz.func65, Tryz.ntmps65
        go_wp2
        go_ret2
        refine ⟨⟨t, ?_, fun h => ?_⟩, rfl⟩
        · rw [Hf.out, ← Hs.out]; rfl
        · rw [Hf.out] at h
          exact ⟨Hw.out h, t0, by omega⟩

theorem rpart_yes {x : Nat} {n : Int} (w : World) (hx : W x n) (hn : 0 ≤ n ∧ n ≤ 10006) :
    Calls Tryz.prog 65 #[.float .f64 x] w fun e w' => e = .returned (.tuple #[.int .i64 n, .bool true]) ∧ w = w' :=
  (rpart_any x w).mono fun e w' ⟨⟨t, he, ht⟩, hw⟩ => by
    rw [inB_yes hx hn] at he
    obtain rfl := (ht (inB_yes hx hn)).1.uniq hx
    exact ⟨he, hw⟩
theorem rpart_no {x : Nat} (w : World) (h : inB x = false) :
    Calls Tryz.prog 65 #[.float .f64 x] w fun e w' => (∃ t : Int, e = .returned (.tuple #[.int .i64 t, .bool false])) ∧ w = w' :=
  (rpart_any x w).mono fun e w' ⟨⟨t, he, _⟩, hw⟩ => by
    rw [h] at he
    exact ⟨⟨t, he⟩, hw⟩
theorem ptB_cases {x y : Nat} (h : ptB x y = false) : inB x = false ∨ ∃ n, W x n ∧ (0 ≤ n ∧ n ≤ 10006) ∧ inB y = false := by
  unfold ptB at h
  cases h1 : inB x
  · exact .inl rfl
  · obtain ⟨n, h2, h3⟩ := inB_of h1
    rw [h1] at h
    exact .inr ⟨n, h2, h3, by simpa using h⟩

set_option maxRecDepth 100000 in
set_option maxHeartbeats 400000 in
theorem rright_yes {x y : Nat} {p : Int × Int} (w : World) (hp : Pt x y p) :
    Calls Tryz.prog 54 #[.complex .f64 x y] w fun e w' => e = .returned (.bool true) ∧ w = w' := by
  go_enter Tryz.func54, Tryz.ntmps54
  go_wp2_with fail
  refine (rpart_yes _ hp.re hp.ok.1).mono ?_
  rintro e w' ⟨rfl, rfl⟩
  go_wp2_with fail
  refine (rpart_yes _ hp.im hp.ok.2).mono ?_
  rintro e w' ⟨rfl, rfl⟩
  go_wp2_with fail
  go_ret
  exact ⟨rfl, rfl⟩

set_option maxRecDepth 100000 in
set_option maxHeartbeats 400000 in
theorem rright_no {x y : Nat} (w : World) (h : ptB x y = false) :
    Calls Tryz.prog 54 #[.complex .f64 x y] w fun e w' => e = .returned (.bool false) ∧ w = w' := by
  rcases ptB_cases h with h1 | ⟨n, h1, h2, h3⟩
  · have H1 := Lib.hid h1
    clear h h1
    cases h2 : inB y
    · have H2 := Lib.hid h2
      clear h2
      go_enter Tryz.func54, Tryz.ntmps54
      go_wp2_with fail
      refine (rpart_no _ H1.out).mono ?_
      rintro e w' ⟨⟨t, rfl⟩, rfl⟩
      go_wp2_with fail
      refine (rpart_no _ H2.out).mono ?_
      rintro e w' ⟨⟨t, rfl⟩, rfl⟩
      go_wp2_with fail
      go_ret
      exact ⟨rfl, rfl⟩
    · obtain ⟨m, h3, h4⟩ := inB_of h2
      clear h2
      go_enter Tryz.func54, Tryz.ntmps54
      go_wp2_with fail
      refine (rpart_no _ H1.out).mono ?_
      rintro e w' ⟨⟨t, rfl⟩, rfl⟩
      go_wp2_with fail
      refine (rpart_yes _ h3 h4).mono ?_
      rintro e w' ⟨rfl, rfl⟩
      go_wp2_with fail
      go_ret
      exact ⟨rfl, rfl⟩
  · have H3 := Lib.hid h3
    clear h h3
    go_enter Tryz.func54, Tryz.ntmps54
    go_wp2_with fail
    refine (rpart_yes _ h1 h2).mono ?_
    rintro e w' ⟨rfl, rfl⟩
    go_wp2_with fail
    refine (rpart_no _ H3.out).mono ?_
    rintro e w' ⟨⟨t, rfl⟩, rfl⟩
    go_wp2_with fail
    go_ret
    exact ⟨rfl, rfl⟩

theorem rnextP (p : Int × Int) (c : Int) : ((3 * p.1 - 5 * p.2 + c + 1) % 10007, (5 * p.1 + 3 * p.2) % 10007) = nextP p c := by
  unfold nextP
  exact Prod.ext (by simp only; omega) (by simp only; omega)
theorem rest_neg_le {n m : Int} (h : n < 0) (hm : n.tmod 10007 = m) : m ≤ 0 := by
  rw [tmod_neg h] at hm
  omega
theorem rest_neg_up {n m : Int} (hf : (m < 0 ∧ m + 10007 = n % 10007) ∨ (¬ m < 0 ∧ m = n % 10007)) : m % 10007 = n % 10007 := by omega

set_option maxRecDepth 100000 in
set_option maxHeartbeats 400000 in
theorem rnext_yes {x y : Nat} {p : Int × Int} {c : Int} (w : World) (hp : Pt x y p) (hb : 0 ≤ c ∧ c ≤ 255) :
    Calls Tryz.prog 55 #[.complex .f64 x y, .int .u8 c] w fun e w' => e = .returned (.complex .f64 (fl (nextP p c).1) (fl (nextP p c).2)) ∧ w = w' := by
  obtain ⟨hx, hy, ⟨a0, a1⟩, b0, b1⟩ := hp
  have Hf := Lib.hid (rnextP p c)
  by_cases h0 : 0 ≤ 3 * p.1 - 5 * p.2 + c + 1
  · go_enter Tryz.func55, Tryz.ntmps55
    go_wp2_with fail
    refine (rpart_yes _ hx ⟨a0, a1⟩).mono ?_
    rintro e w' ⟨rfl, rfl⟩
    go_wp2_with fail
    refine (rpart_yes _ hy ⟨b0, b1⟩).mono ?_
    rintro e w' ⟨rfl, rfl⟩
    go_wp2_with fail
    go_ret
    exact ⟨by rw [← Hf.out]; rfl, rfl⟩
  · obtain ⟨m, hm, m0, m1, hf⟩ := rest_neg (show 3 * p.1 - 5 * p.2 + c + 1 < 0 by omega)
    have Hm := Lib.hid (rest_neg_up hf)
    have m2 := rest_neg_le (by omega) hm
    clear hf
    go_enter Tryz.func55, Tryz.ntmps55
    go_wp2_with fail
    refine (rpart_yes _ hx ⟨a0, a1⟩).mono ?_
    rintro e w' ⟨rfl, rfl⟩
    go_wp2_with fail
    refine (rpart_yes _ hy ⟨b0, b1⟩).mono ?_
    rintro e w' ⟨rfl, rfl⟩
    go_wp2_with fail
    go_ret
    exact ⟨by rw [← Hf.out]; simp only [← Hm.out]; rfl, rfl⟩


set_option maxRecDepth 100000 in
set_option maxHeartbeats 400000 in
theorem rnext_no {x y : Nat} {c : Int} (w : World) (h : ptB x y = false) :
    Calls Tryz.prog 55 #[.complex .f64 x y, .int .u8 c] w fun e w' => e = .returned (.complex .f64 0 0) ∧ w = w' := by
  rcases ptB_cases h with h1 | ⟨n, h1, h2, h3⟩
  · have H1 := Lib.hid h1
    clear h h1
    cases h2 : inB y
    · have H2 := Lib.hid h2
      clear h2
      go_enter Tryz.func55, Tryz.ntmps55
      go_wp2_with fail
      refine (rpart_no _ H1.out).mono ?_
      rintro e w' ⟨⟨t, rfl⟩, rfl⟩
      go_wp2_with fail
      refine (rpart_no _ H2.out).mono ?_
      rintro e w' ⟨⟨t, rfl⟩, rfl⟩
      go_wp2_with fail
      go_ret
      exact ⟨rfl, rfl⟩
    · obtain ⟨m, h3, h4⟩ := inB_of h2
      clear h2
      go_enter Tryz.func55, Tryz.ntmps55
      go_wp2_with fail
      refine (rpart_no _ H1.out).mono ?_
      rintro e w' ⟨⟨t, rfl⟩, rfl⟩
      go_wp2_with fail
      refine (rpart_yes _ h3 h4).mono ?_
      rintro e w' ⟨rfl, rfl⟩
      go_wp2_with fail
      go_ret
      exact ⟨rfl, rfl⟩
  · have H3 := Lib.hid h3
    clear h h3
    go_enter Tryz.func55, Tryz.ntmps55
    go_wp2_with fail
    refine (rpart_yes _ h1 h2).mono ?_
    rintro e w' ⟨rfl, rfl⟩
    go_wp2_with fail
    refine (rpart_no _ H3.out).mono ?_
    rintro e w' ⟨⟨t, rfl⟩, rfl⟩
    go_wp2_with fail
    go_ret
    exact ⟨rfl, rfl⟩

set_option maxRecDepth 100000 in
set_option maxHeartbeats 400000 in
theorem rbytes_no {x y : Nat} (w : World) (h : ptB x y = false) :
    Calls Tryz.prog 64 #[.complex .f64 x y] w fun e w' => e = .returned (agg4 [0, 0, 0, 0]) ∧ Below w.heap.size w w' := by
  rcases ptB_cases h with h1 | ⟨n, h1, h2, h3⟩
  · have H1 := Lib.hid h1
    clear h h1
    cases h2 : inB y
    · have H2 := Lib.hid h2
      clear h2
      go_enter Tryz.func64, Tryz.ntmps64
      go_wp2_with fail
      refine (rpart_no _ H1.out).mono ?_
      rintro e w' ⟨⟨t, rfl⟩, rfl⟩
      go_wp2_with fail
      refine (rpart_no _ H2.out).mono ?_
      rintro e w' ⟨⟨t, rfl⟩, rfl⟩
      go_wp2_with fail
      exact bodyPost_ret (v := agg4 [0, 0, 0, 0]) (by simp [results, Tryz.results64, go_sem]; rfl) rfl ⟨rfl, (Below.refl _ _).alloc (Nat.le_refl _) _⟩
    · obtain ⟨m, h3, h4⟩ := inB_of h2
      clear h2
      go_enter Tryz.func64, Tryz.ntmps64
      go_wp2_with fail
      refine (rpart_no _ H1.out).mono ?_
      rintro e w' ⟨⟨t, rfl⟩, rfl⟩
      go_wp2_with fail
      refine (rpart_yes _ h3 h4).mono ?_
      rintro e w' ⟨rfl, rfl⟩
      go_wp2_with fail
      exact bodyPost_ret (v := agg4 [0, 0, 0, 0]) (by simp [results, Tryz.results64, go_sem]; rfl) rfl ⟨rfl, (Below.refl _ _).alloc (Nat.le_refl _) _⟩
  · have H3 := Lib.hid h3
    clear h h3
    go_enter Tryz.func64, Tryz.ntmps64
    go_wp2_with fail
    refine (rpart_yes _ h1 h2).mono ?_
    rintro e w' ⟨rfl, rfl⟩
    go_wp2_with fail
    refine (rpart_no _ H3.out).mono ?_
    rintro e w' ⟨⟨t, rfl⟩, rfl⟩
    go_wp2_with fail
    exact bodyPost_ret (v := agg4 [0, 0, 0, 0]) (by simp [results, Tryz.results64, go_sem]; rfl) rfl ⟨rfl, (Below.refl _ _).alloc (Nat.le_refl _) _⟩

set_option maxRecDepth 100000 in
set_option maxHeartbeats 400000 in
theorem rbytes_yes {x y : Nat} {p : Int × Int} (w : World) (hp : Pt x y p) :
    Calls Tryz.prog 64 #[.complex .f64 x y] w fun e w' => e = .returned (agg4 (bytesP p)) ∧ Below w.heap.size w w' := by
  obtain ⟨hx, hy, ⟨a0, a1⟩, b0, b1⟩ := hp
  go_enter Tryz.func64, Tryz.ntmps64
  go_wp2_with fail
  refine (rpart_yes _ hx ⟨a0, a1⟩).mono ?_
  rintro e w' ⟨rfl, rfl⟩
  go_wp2_with fail
  refine (rpart_yes _ hy ⟨b0, b1⟩).mono ?_
  rintro e w' ⟨rfl, rfl⟩
  go_wp2_with fail
  exact bodyPost_ret (v := agg4 (bytesP p)) (by simp [results, Tryz.results64, go_sem]; rfl) rfl ⟨rfl, (Below.refl _ _).alloc (Nat.le_refl _) _⟩
end Go.Proofs.YtcpdjhkpmaamdaaGreat.Ga

namespace Go.Proofs.YtcpdjhkpmaamdaaGreat.Ga
open Go.RowKit

/-- A chain's answer: a point. -/
def ChainOut (p : Int × Int) (e : Ending) : Prop := ∃ x y, e = .returned (.complex .f64 x y) ∧ Pt x y p
/-- Where a chain begins. -/
def From (x y : Nat) (p : Int × Int) : Prop := Pt x y p ∨ (ptB x y = false ∧ p = (0, 0))

set_option maxRecDepth 100000 in
set_option maxHeartbeats 1000000 in
theorem rchain_any {x y : Nat} {p : Int × Int} {A : Option Addr} {n : Nat} (c : Nat) {ps : List Part} (w : World) (hp : From x y p) (hr : Rds w w.heap.size A n ps) (hn : n ≤ 140737488355328) :
    Calls Tryz.prog 41 #[.complex .f64 x y, .slice A n c] w fun e w' => ChainOut (chainP p (flat ps)) e ∧ w = w' := by
  have Hl := Lib.hid hr.len
  rcases hp with hp | ⟨hp, hp0⟩
  · have Hz : Hid (Pt x y (chainP p [])) := Lib.hid hp
    go_enter Tryz.func41, Tryz.ntmps41
    go_wp2_with fail
    refine (rright_yes _ hp).mono ?_
    rintro e w' ⟨rfl, rfl⟩
    go_wp2_with fail
    go_loop [0, 5] (fun z i => ∃ (k a b : Nat), k ≤ n ∧ i = .int .i64 k ∧ z = .complex .f64 a b ∧ Pt a b (chainP p (flat (ps.take k)))) (fun _ i => n - (intOf i).toNat)
    case atStart => exact ⟨0, _, _, Nat.zero_le _, rfl, rfl, Hz.out⟩
    case round =>
      obtain ⟨k, a, b, hk, rfl, rfl, hz⟩ := hrel
      by_cases hlt : k < n
      · obtain ⟨bl, off, q, rfl, hB, hq, hc, hrq, hbq, hnq⟩ := hr.at_ hlt
        have Hq := Lib.hid (flat_take hq)
        have Hql := Lib.hid hrq.1
        clear hq
        go_wp2_with fail
        go_loop [0, 6] (fun z i => ∃ (j a b : Nat), j ≤ q.n ∧ i = .int .i64 j ∧ z = .complex .f64 a b ∧ Pt a b (chainP p (flat (ps.take k) ++ q.l.take j))) (fun _ i => q.n - (intOf i).toNat)
        case atStart => exact ⟨0, _, _, Nat.zero_le _, rfl, rfl, by rw [List.take_zero, List.append_nil]; exact hz⟩
        case round =>
          obtain ⟨j, a', b', hj, rfl, rfl, hz'⟩ := hrel
          by_cases hlt2 : j < q.n
          · obtain ⟨bl', off', hA', hB', hc'⟩ := hrq.at_ (by omega)
            have hcj := hc' j hlt2
            have hby := hbq.at_ j
            clear hc'
            have Hs := Lib.hid (take_snoc (l := q.l) (k := j) (by rw [Hql.out]; exact hlt2))
            go_wp2_with fail
            refine (rnext_yes _ hz' hby).mono ?_
            rintro e w' ⟨rfl, rfl⟩
            go_wp2_with fail
            go_round
            case rel => exact ⟨j + 1, _, _, by omega, by go_num, rfl, by rw [Hs.out, ← List.append_assoc, chainP_snoc]; exact Pt.fl (nextP_in _ _)⟩
            case measure => simp [intOf]; omega
          · obtain rfl : j = q.n := by omega
            go_wp2_with fail
            go_round
            case rel => exact ⟨k + 1, _, _, by omega, by go_num, rfl, by rw [Hq.out]; rwa [List.take_of_length_le (show q.l.length ≤ q.n by rw [Hql.out]; exact Nat.le_refl _)] at hz'⟩
            case measure => simp [intOf]; omega
      · obtain rfl : k = n := by omega
        go_wp2_with fail
        go_ret
        exact ⟨⟨a, b, rfl, by rwa [List.take_of_length_le (by rw [Hl.out]; exact Nat.le_refl _)] at hz⟩, rfl⟩
  · have Hp := Lib.hid hp
    have Hz : Hid (Pt 0 0 (chainP p [])) := Lib.hid (by rw [hp0]; exact Pt.zero)
    clear hp hp0
    go_enter Tryz.func41, Tryz.ntmps41
    go_wp2_with fail
    refine (rright_no _ Hp.out).mono ?_
    rintro e w' ⟨rfl, rfl⟩
    go_wp2_with fail
    go_loop [0, 5] (fun z i => ∃ (k a b : Nat), k ≤ n ∧ i = .int .i64 k ∧ z = .complex .f64 a b ∧ Pt a b (chainP p (flat (ps.take k)))) (fun _ i => n - (intOf i).toNat)
    case atStart => exact ⟨0, _, _, Nat.zero_le _, rfl, rfl, Hz.out⟩
    case round =>
      obtain ⟨k, a, b, hk, rfl, rfl, hz⟩ := hrel
      by_cases hlt : k < n
      · obtain ⟨bl, off, q, rfl, hB, hq, hc, hrq, hbq, hnq⟩ := hr.at_ hlt
        have Hq := Lib.hid (flat_take hq)
        have Hql := Lib.hid hrq.1
        clear hq
        go_wp2_with fail
        go_loop [0, 6] (fun z i => ∃ (j a b : Nat), j ≤ q.n ∧ i = .int .i64 j ∧ z = .complex .f64 a b ∧ Pt a b (chainP p (flat (ps.take k) ++ q.l.take j))) (fun _ i => q.n - (intOf i).toNat)
        case atStart => exact ⟨0, _, _, Nat.zero_le _, rfl, rfl, by rw [List.take_zero, List.append_nil]; exact hz⟩
        case round =>
          obtain ⟨j, a', b', hj, rfl, rfl, hz'⟩ := hrel
          by_cases hlt2 : j < q.n
          · obtain ⟨bl', off', hA', hB', hc'⟩ := hrq.at_ (by omega)
            have hcj := hc' j hlt2
            have hby := hbq.at_ j
            clear hc'
            have Hs := Lib.hid (take_snoc (l := q.l) (k := j) (by rw [Hql.out]; exact hlt2))
            go_wp2_with fail
            refine (rnext_yes _ hz' hby).mono ?_
            rintro e w' ⟨rfl, rfl⟩
            go_wp2_with fail
            go_round
            case rel => exact ⟨j + 1, _, _, by omega, by go_num, rfl, by rw [Hs.out, ← List.append_assoc, chainP_snoc]; exact Pt.fl (nextP_in _ _)⟩
            case measure => simp [intOf]; omega
          · obtain rfl : j = q.n := by omega
            go_wp2_with fail
            go_round
            case rel => exact ⟨k + 1, _, _, by omega, by go_num, rfl, by rw [Hq.out]; rwa [List.take_of_length_le (show q.l.length ≤ q.n by rw [Hql.out]; exact Nat.le_refl _)] at hz'⟩
            case measure => simp [intOf]; omega
      · obtain rfl : k = n := by omega
        go_wp2_with fail
        go_ret
        exact ⟨⟨a, b, rfl, by rwa [List.take_of_length_le (by rw [Hl.out]; exact Nat.le_refl _)] at hz⟩, rfl⟩
end Go.Proofs.YtcpdjhkpmaamdaaGreat.Ga

namespace Go.Proofs.YtcpdjhkpmaamdaaGreat.Ga
open Go.RowKit Go.Shelf

attribute [local go_sem] Oper.semAt_some

/-- A byte, as it is handed over (of what is none: its rest, so that one is handed over always). -/
abbrev encs (x : Int) : Array Value := #[.int .u8 (x % 256)]
theorem byte_rest {x : Int} (h : 0 ≤ x ∧ x ≤ 255) : x % 256 = x := by omega
set_option maxRecDepth 100000 in
set_option maxHeartbeats 2000000 in
theorem iter_in (l s B : Nat) {A : Option Addr} {n : Nat} (c : Nat) {ps : List Part} (hn : n ≤ 140737488355328) (J Jx : List Int → World → Prop)
    (hY : ∀ pre x W, J pre W → pre.length < (flat ps).length → YieldAt Fence.wide 2 Tryz.prog l (encs x) W fun e W' =>
      (e = .returned (.bool true) ∧ J (pre ++ [x]) W' ∧ Below B W W') ∨ (e = .returned (.bool false) ∧ Jx (pre ++ [x]) W'))
    (W : World) (hcs : W.cell? ⟨s, 0, none⟩ = some (.slice A n c)) (hr : Rds W B A n ps) (h0 : J [] W) :
    CallsIn Fence.wide 3 Tryz.prog 163 #[.func (.yield l) #[] #[], .pointer (some ⟨s, 0, none⟩)] W fun e W' => (∃ v, e = .returned v) ∧
      ((∃ ys, ys = flat ps ∧ J ys W') ∨ (∃ pre, True ∧ Jx pre W')) := by
  have Hl := Lib.hid hr.len
  refine callsIn_of_wp Tryz.func163 rfl trivial ?_ rfl
  simp only [Tryz.ntmps163, List.size_toArray, List.length_cons, List.length_nil, Nat.reduceAdd, Nat.reduceSub, Array.replicate_succ, Array.replicate_zero, List.push_toArray, List.append_toArray, List.nil_append, List.cons_append]
  gi_wp2
  gi_loopw [9] (fun i wr => ∃ (k : Nat), k ≤ n ∧ i = .int .i64 k ∧ J (flat (ps.take k)) wr ∧ Below B W wr) (fun i _ => n - (intOf i).toNat)
  case atStart => exact ⟨0, Nat.zero_le _, rfl, h0, Below.refl _ _⟩
  case round =>
    obtain ⟨k, hk, rfl, hJ, hB⟩ := hrel
    by_cases hlt : k < n
    · obtain ⟨b, off, ⟨qA, qn, qc, ql⟩, rfl, hb, hq, hc, hrq, hbq, hnq⟩ := (hr.on hB (Nat.le_refl _)).at_ hlt
      have hq1 := flat_take hq
      have hq2 := fun (j : Nat) (hj : j < ql.length) => flat_lt hq hj
      dsimp only at hc hrq hbq hnq hq1 hq2
      have Hq := Lib.hid hq1
      have Hq' := Lib.hid hq2
      clear hq1 hq2
      have Hql := Lib.hid hrq.1
      clear hq
      obtain ⟨wo, rfl⟩ : ∃ wo : World, wo = wr := ⟨_, rfl⟩
      gi_wp2
      gi_loopw [15] (fun i wr => ∃ (j : Nat), j ≤ qn ∧ i = .int .i64 j ∧ J (flat (ps.take k) ++ ql.take j) wr ∧ Below B wo wr) (fun i _ => qn - (intOf i).toNat)
      case atStart => exact ⟨0, Nat.zero_le _, rfl, by rw [List.take_zero, List.append_nil]; exact hJ, Below.refl _ _⟩
      case round =>
        obtain ⟨j, hj, rfl, hJ2, hB2⟩ := hrel
        by_cases hlt2 : j < qn
        · obtain ⟨b', off', rfl, hb', hc'⟩ := (hrq.on hB2 (Nat.le_refl _)).at_ (by omega)
          have hcj := hc' j hlt2
          clear hc'
          have Hs := Lib.hid (take_snoc (l := ql) (k := j) (by rw [Hql.out]; exact hlt2))
          obtain ⟨fn, tmps, assign, body, hy, hR⟩ := hY _ (ql[j]?.getD 0) _ hJ2 (Hq'.out _ (by rw [Hql.out]; exact hlt2))
          dsimp only [encs] at hy
          rw [byte_rest (hbq.at_ j)] at hy
          gi_wp2
          refine hR.mono ?_
          rintro e W3 (⟨rfl, hJ3, hk3⟩ | ⟨rfl, hJx3⟩)
          · gi_wp2
            go_roundw
            case rel => exact ⟨j + 1, by omega, by go_num, by rw [Hs.out, ← List.append_assoc]; exact hJ3, hB2.trans hk3⟩
            case measure => simp [intOf]; omega
          · gi_wp2
            refine bodyPost_ret (results_none rfl _ _ _) rfl ?_
            exact ⟨⟨_, rfl⟩, .inr ⟨_, trivial, hJx3⟩⟩
        · obtain rfl : j = qn := by omega
          rw [List.take_of_length_le (show ql.length ≤ j by rw [Hql.out]; exact Nat.le_refl _), ← Hq.out] at hJ2
          gi_wp2
          go_roundw
          case rel => exact ⟨k + 1, by omega, by go_num, hJ2, hB.trans hB2⟩
          case measure => simp [intOf]; omega
    · obtain rfl : k = n := by omega
      rw [List.take_of_length_le (show ps.length ≤ k by rw [Hl.out]; exact Nat.le_refl _)] at hJ
      gi_wp2
      go_end0
      exact ⟨⟨_, rfl⟩, .inl ⟨_, rfl, hJ⟩⟩

/-- The iterator's contract. -/
theorem iter_stops (s : Nat) {B : Nat} {A : Option Addr} {n : Nat} (c : Nat) {ps : List Part} (hn : n ≤ 140737488355328) (w : World) (hB : B ≤ w.heap.size) (hs : Boxed w s 89 (.slice A n c)) (hr : Rds w B A n ps) :
    SeqStopsK Fence.wide 3 Tryz.prog 163 #[.pointer (some ⟨s, 0, none⟩)] encs (Below B)
      (fun ys => ys = flat ps) (fun _ => True) (flat ps).length w := fun l J Jx W hW _ _ hY h0 =>
  iter_in l s B c hn J Jx hY W ((hW.cell (p := ⟨s, 0, none⟩) hs.lt).trans hs.cell) (hr.on (hW.mono hB) (Nat.le_refl _)) h0
end Go.Proofs.YtcpdjhkpmaamdaaGreat.Ga

namespace Go.Proofs.YtcpdjhkpmaamdaaGreat.Ga
open Go.RowKit Go.Shelf

/-- What no file of the guide has: the store of a complex number. -/
theorem run_store_complex {P : Program} {w : World} {a : Addr} {m : Mode} (k : FloatKind) (x y : Nat) : (store a (.complex k x y) m).run P w = stored P w a (.complex k x y) m := run_store P w a _ m rfl
attribute [local go_sem] Oper.semAt_some run_store_complex

def AllOut (A : Option Addr) (n c : Nat) (w : World) (e : Ending) (w' : World) : Prop :=
  e = .returned (.func (.func 163) #[] #[.pointer (some ⟨w.heap.size, 0, none⟩)]) ∧ Boxed w' w.heap.size 89 (.slice A n c) ∧ w'.heap.size = w.heap.size + 1 ∧ Below w.heap.size w w'
set_option maxRecDepth 100000 in
set_option maxHeartbeats 400000 in
theorem all_any (A : Option Addr) (n c : Nat) (w : World) : Calls Tryz.prog 154 #[.slice A n c] w (AllOut A n c w) := by
  go_enter Tryz.func154, Tryz.ntmps154
  go_wp2
  go_ret
  exact ⟨rfl, Boxed.new w _ _, by simp, (Below.refl _ w).alloc (Nat.le_refl _) _⟩

theorem some_ne_row {W W' : World} {row : Option Nat} {B b : Nat} {o : Obj} (_hg : W.grownBy W' row) (hr : ∀ r, row = some r → B ≤ r ∧ ∃ o : Obj, W.heap[r]? = some o ∧ o.isCells = false) (hb : W.heap[b]? = some o) (h : b < B ∨ o.isCells = true) : some b ≠ row := by
  intro e
  obtain ⟨hB, o', ho, hc⟩ := hr b e.symm
  rcases h with h | h
  · omega
  · rw [hb] at ho
    cases ho
    rw [h] at hc
    cases hc

/-- Between two bytes' rounds: the box zB holds the point so far; the closure's two boxes hold what they held; what lay when the call began lies. -/
def CI (w : World) (zB rB bm : Nat) (p : Int × Int) (pre : List Int) (W : World) : Prop :=
  (∃ x y q, Boxed W zB 68 (.complex .f64 x y) ∧ Pt x y q ∧ (Byt pre → q = chainP p pre)) ∧ Below w.heap.size w W ∧ Boxed W rB 173 (restV bm) ∧ Boxed W bm 3 (.int .i64 10007)
theorem CI.own {w : World} {zB rB bm B : Nat} {p : Int × Int} (_hw : w.heap.size ≤ B) : OwnFrom B (CI w zB rB bm p) := by
  rintro pre W W' row ⟨⟨x, y, q, hz, hp⟩, hB, b1, b2⟩ hg hr
  exact ⟨⟨x, y, q, hz.kept hg (some_ne_row hg hr hz (.inr rfl)), hp⟩, hB.grown hg hB.size (fun k e => by have := (hr k e).1; omega), b1.kept hg (some_ne_row hg hr b1 (.inr rfl)), b2.kept hg (some_ne_row hg hr b2 (.inr rfl))⟩

set_option maxRecDepth 100000 in
set_option maxHeartbeats 2000000 in
theorem chain_in {x y : Nat} {p : Int × Int} {A : Option Addr} {n : Nat} (c : Nat) {ps : List Part} (w : World) (hp : From x y p) (hr : Rds w w.heap.size A n ps) (hn : n ≤ 140737488355328) :
    CallsIn Fence.wide 4 Tryz.prog 146 #[.complex .f64 x y, .slice A n c] w fun e w' => ChainOut (chainP p (flat ps)) e ∧ Below w.heap.size w w' := by
  rcases hp with hp | ⟨hp, hp0⟩
  · have Hz : Hid (Pt x y (chainP p [])) := Lib.hid hp
    refine callsIn_of_wp_marks Tryz.func146 rfl trivial ?_ rfl
    simp only [Tryz.ntmps146, List.size_toArray, List.length_cons, List.length_nil, Nat.reduceAdd, Nat.reduceSub, Array.replicate_succ, Array.replicate_zero, List.push_toArray, List.append_toArray, List.nil_append, List.cons_append]
    gi_wp2_with fail
    refine ⟨trivial, ?_⟩
    refine (callsIn_wide.2 (right_yes hp _)).mono ?_
    rintro e w' ⟨rfl, rfl⟩
    gi_wp2_with fail
    refine ⟨trivial, ?_⟩
    obtain ⟨zB, hzB⟩ : ∃ zB, zB = w.heap.size := ⟨_, rfl⟩
    obtain ⟨w0, hw0⟩ : ∃ w0, w0 = w.alloc (.cells #[.complex .f64 x y] 68) := ⟨_, rfl⟩
    have hz0 : Boxed w0 zB 68 (.complex .f64 x y) := by rw [hw0, hzB]; exact Boxed.new w _ _
    have hB0 : Below w.heap.size w w0 := by rw [hw0]; exact (Below.refl _ _).alloc (Nat.le_refl _) _
    have hs0 : w0.heap.size = zB + 1 := by rw [hw0, hzB]; simp
    rw [← hw0, ← hzB]
    clear hw0
    refine (callsIn_wide.2 (restBy_any _)).mono ?_
    rintro e w1 ⟨rfl, hbm, hs1, hb1⟩
    unfold restV
    obtain ⟨bm, hbm0⟩ : ∃ bm, bm = w0.heap.size := ⟨_, rfl⟩
    rw [← hbm0] at hbm hs1 hb1 ⊢
    have hz1 : Boxed w1 zB 68 (.complex .f64 x y) := (hb1.block zB (by omega)).trans hz0
    have hB1 := hB0.trans (hb1.mono (by rw [hbm0]; exact hB0.size))
    have hbz1 : zB < bm ∧ w.heap.size ≤ zB := by omega
    have Hs1 := Lib.hid hs1
    clear hbm0 hs0 hs1 hb1 hB0 hz0 hzB
    gi_wp2_with fail
    refine ⟨trivial, ?_⟩
    obtain ⟨rB, hrB⟩ : ∃ rB, rB = w1.heap.size := ⟨_, rfl⟩
    obtain ⟨w2, hw2⟩ : ∃ w2, w2 = w1.alloc (.cells #[.func (.func 162) #[] #[.pointer (some ⟨bm, 0, none⟩)]] 173) := ⟨_, rfl⟩
    have hr2 : Boxed w2 rB 173 (restV bm) := by rw [hw2, hrB]; exact Boxed.new w1 _ _
    have hz2 : Boxed w2 zB 68 (.complex .f64 x y) := by rw [hw2]; exact hz1.alloc _
    have hm2 : Boxed w2 bm 3 (.int .i64 10007) := by rw [hw2]; exact hbm.alloc _
    have hB2 : Below w.heap.size w w2 := by rw [hw2]; exact hB1.alloc hB1.size _
    have hs2 : w2.heap.size = rB + 1 := by rw [hw2, hrB]; simp
    rw [← hw2, ← hrB]
    have Hrb := Lib.hid hrB
    clear hw2 hz1 hbm hB1 hrB
    refine (callsIn_wide.2 (all_any _ _ _ _)).mono ?_
    rintro e w3 ⟨rfl, hs, hs3, hb3⟩
    obtain ⟨s, hs0⟩ : ∃ s, s = w2.heap.size := ⟨_, rfl⟩
    rw [← hs0] at hs hs3 hb3 ⊢
    have hz3 : Boxed w3 zB 68 (.complex .f64 x y) := (hb3.block zB (by rw [hs0]; exact hz2.lt)).trans hz2
    have hm3 : Boxed w3 bm 3 (.int .i64 10007) := (hb3.block bm (by rw [hs0]; exact hm2.lt)).trans hm2
    have hr3 : Boxed w3 rB 173 (restV bm) := (hb3.block rB (by rw [hs0]; exact hr2.lt)).trans hr2
    have hB3 := hB2.trans (hb3.mono (by rw [hs0]; exact hB2.size))
    have h0 : CI w zB rB bm p [] w3 := ⟨⟨_, _, _, hz3, Hz.out, fun _ => rfl⟩, hB3, hr3, hm3⟩
    have hB3' := hB3.size
    have hzs := hz3.lt
    have hbz : (rB ≠ zB ∧ bm ≠ zB) ∧ w.heap.size ≤ zB := by have h1 := Hs1.out; have h2 := Hrb.out; omega
    have Hs0 := Lib.hid hs0
    have Hs2 := Lib.hid hs2
    have Hs3 := Lib.hid hs3
    clear hs0 hs2 hs3 hb3 hB2 hz2 hm2 hr2 hz3 hm3 hr3
    gi_wp2_with fail
    refine wpIn_rangeFunc_ownG rfl (by omega) (gf := 163) (lb := #[.pointer (some ⟨s, 0, none⟩)]) rfl trivial (enters_of Tryz.func163 (by kernel_rfl) rfl)
      (iter_stops s c hn w3 hB3.size hs (hr.on hB3 (Nat.le_refl _))) (fun h h' => h.trans h') (belowK_b hB3.size) (Below.refl _ _) (fun _ => rfl)
      (CI w zB rB bm p) (fun _ _ _ => False) (CI.own hB3.size) (fun _ _ _ _ _ h _ _ => h) h0
      (fun d => { tmps := #[.complex .f64 x y, .slice A n c, .pointer (some ⟨zB, 0, none⟩), undef, .complex .f64 0 0, .pointer (some ⟨rB, 0, none⟩), .int .u8 (d % 256), .complex .f64 x y, .bool true, .bool false, .func (.func 162) #[] #[.pointer (some ⟨bm, 0, none⟩)], .slice A n c, .func (.func 163) #[] #[.pointer (some ⟨s, 0, none⟩)], .int .u8 (d % 256), undef, undef, undef, undef, undef], defers := [] }) ?assign ?body ?done ?stop
    case assign =>
      intro lp d W K hK
      gi_wp2
      exact hK
    case body =>
      rintro lp pre d W ⟨⟨a, b, q, hz, hq, he⟩, hB, b1, b2⟩ hlt2
      have hzc := hz.cell
      have hfz := hz.frozen
      have hbc := b1.cell
      unfold restV at hbc
      have hby : 0 ≤ d % 256 ∧ d % 256 ≤ 255 := by omega
      gi_wp2_with fail
      refine ⟨trivial, ?_⟩
      refine (CallsIn.inRound lp (callsIn_wide.2 (step_any W hq hby b2.cell))).mono ?_
      rintro e w' ⟨rfl, rfl⟩
      gi_wp2_with fail
      have He : Byt (pre ++ [d]) → nextP q (d % 256) = chainP p (pre ++ [d]) := fun hby => by
        rw [chainP_snoc, he (fun x hx => hby x (by simp [hx])), byte_rest (hby d (by simp))]
      exact ⟨KeepsFrom.of_grownBy (grownBy_setCell' W zB _) (fun k e => by cases e; exact hzs), (Below.refl _ _).setCell hbz.2 _, ⟨_, _, _, hz.set _, Pt.fl (nextP_in _ _), He⟩, hB.setCell hbz.2 _, b1.other hbz.1.1 _, b2.other hbz.1.2 _⟩
    case done =>
      rintro D ys W hD rfl ⟨⟨a, b, q, hz, hq, he⟩, hB, b1, b2⟩ hK
      have hzc := hz.cell
      have He := Lib.hid he
      clear he
      gi_wp2
      refine leaves_marks [D] W ⟨by simp, fun d hd => ?_⟩ fun w' hw' => ⟨_, results_tmp rfl _ _ _, ?_, hB.trans hw'.1⟩
      · obtain rfl : d = D := by simpa using hd
        exact ⟨Nat.le_trans hB3' hD, hK⟩
      · exact ⟨a, b, rfl, by rw [← He.out (flat_byt hr)]; exact hq⟩
    case stop =>
      rintro D cc pre W _ _ h _
      exact h.elim
  · have Hp := Lib.hid hp
    have Hz : Hid (Pt 0 0 (chainP p [])) := Lib.hid (by rw [hp0]; exact Pt.zero)
    clear hp hp0
    refine callsIn_of_wp_marks Tryz.func146 rfl trivial ?_ rfl
    simp only [Tryz.ntmps146, List.size_toArray, List.length_cons, List.length_nil, Nat.reduceAdd, Nat.reduceSub, Array.replicate_succ, Array.replicate_zero, List.push_toArray, List.append_toArray, List.nil_append, List.cons_append]
    gi_wp2_with fail
    refine ⟨trivial, ?_⟩
    refine (callsIn_wide.2 (right_no Hp.out _)).mono ?_
    rintro e w' ⟨rfl, rfl⟩
    gi_wp2_with fail
    refine ⟨trivial, ?_⟩
    obtain ⟨zB, hzB⟩ : ∃ zB, zB = w.heap.size := ⟨_, rfl⟩
    obtain ⟨w0, hw0⟩ : ∃ w0, w0 = w.alloc (.cells #[.complex .f64 0 0] 68) := ⟨_, rfl⟩
    have hz0 : Boxed w0 zB 68 (.complex .f64 0 0) := by rw [hw0, hzB]; exact Boxed.new w _ _
    have hB0 : Below w.heap.size w w0 := by rw [hw0]; exact (Below.refl _ _).alloc (Nat.le_refl _) _
    have hs0 : w0.heap.size = zB + 1 := by rw [hw0, hzB]; simp
    rw [← hw0, ← hzB]
    clear hw0
    refine (callsIn_wide.2 (restBy_any _)).mono ?_
    rintro e w1 ⟨rfl, hbm, hs1, hb1⟩
    unfold restV
    obtain ⟨bm, hbm0⟩ : ∃ bm, bm = w0.heap.size := ⟨_, rfl⟩
    rw [← hbm0] at hbm hs1 hb1 ⊢
    have hz1 : Boxed w1 zB 68 (.complex .f64 0 0) := (hb1.block zB (by omega)).trans hz0
    have hB1 := hB0.trans (hb1.mono (by rw [hbm0]; exact hB0.size))
    have hbz1 : zB < bm ∧ w.heap.size ≤ zB := by omega
    have Hs1 := Lib.hid hs1
    clear hbm0 hs0 hs1 hb1 hB0 hz0 hzB
    gi_wp2_with fail
    refine ⟨trivial, ?_⟩
    obtain ⟨rB, hrB⟩ : ∃ rB, rB = w1.heap.size := ⟨_, rfl⟩
    obtain ⟨w2, hw2⟩ : ∃ w2, w2 = w1.alloc (.cells #[.func (.func 162) #[] #[.pointer (some ⟨bm, 0, none⟩)]] 173) := ⟨_, rfl⟩
    have hr2 : Boxed w2 rB 173 (restV bm) := by rw [hw2, hrB]; exact Boxed.new w1 _ _
    have hz2 : Boxed w2 zB 68 (.complex .f64 0 0) := by rw [hw2]; exact hz1.alloc _
    have hm2 : Boxed w2 bm 3 (.int .i64 10007) := by rw [hw2]; exact hbm.alloc _
    have hB2 : Below w.heap.size w w2 := by rw [hw2]; exact hB1.alloc hB1.size _
    have hs2 : w2.heap.size = rB + 1 := by rw [hw2, hrB]; simp
    rw [← hw2, ← hrB]
    have Hrb := Lib.hid hrB
    clear hw2 hz1 hbm hB1 hrB
    refine (callsIn_wide.2 (all_any _ _ _ _)).mono ?_
    rintro e w3 ⟨rfl, hs, hs3, hb3⟩
    obtain ⟨s, hs0⟩ : ∃ s, s = w2.heap.size := ⟨_, rfl⟩
    rw [← hs0] at hs hs3 hb3 ⊢
    have hz3 : Boxed w3 zB 68 (.complex .f64 0 0) := (hb3.block zB (by rw [hs0]; exact hz2.lt)).trans hz2
    have hm3 : Boxed w3 bm 3 (.int .i64 10007) := (hb3.block bm (by rw [hs0]; exact hm2.lt)).trans hm2
    have hr3 : Boxed w3 rB 173 (restV bm) := (hb3.block rB (by rw [hs0]; exact hr2.lt)).trans hr2
    have hB3 := hB2.trans (hb3.mono (by rw [hs0]; exact hB2.size))
    have h0 : CI w zB rB bm p [] w3 := ⟨⟨_, _, _, hz3, Hz.out, fun _ => rfl⟩, hB3, hr3, hm3⟩
    have hB3' := hB3.size
    have hzs := hz3.lt
    have hbz : (rB ≠ zB ∧ bm ≠ zB) ∧ w.heap.size ≤ zB := by have h1 := Hs1.out; have h2 := Hrb.out; omega
    have Hs0 := Lib.hid hs0
    have Hs2 := Lib.hid hs2
    have Hs3 := Lib.hid hs3
    clear hs0 hs2 hs3 hb3 hB2 hz2 hm2 hr2 hz3 hm3 hr3
    gi_wp2_with fail
    refine wpIn_rangeFunc_ownG rfl (by omega) (gf := 163) (lb := #[.pointer (some ⟨s, 0, none⟩)]) rfl trivial (enters_of Tryz.func163 (by kernel_rfl) rfl)
      (iter_stops s c hn w3 hB3.size hs (hr.on hB3 (Nat.le_refl _))) (fun h h' => h.trans h') (belowK_b hB3.size) (Below.refl _ _) (fun _ => rfl)
      (CI w zB rB bm p) (fun _ _ _ => False) (CI.own hB3.size) (fun _ _ _ _ _ h _ _ => h) h0
      (fun d => { tmps := #[.complex .f64 x y, .slice A n c, .pointer (some ⟨zB, 0, none⟩), undef, .complex .f64 0 0, .pointer (some ⟨rB, 0, none⟩), .int .u8 (d % 256), .complex .f64 x y, .bool false, .bool true, .func (.func 162) #[] #[.pointer (some ⟨bm, 0, none⟩)], .slice A n c, .func (.func 163) #[] #[.pointer (some ⟨s, 0, none⟩)], .int .u8 (d % 256), undef, undef, undef, undef, undef], defers := [] }) ?assign ?body ?done ?stop
    case assign =>
      intro lp d W K hK
      gi_wp2
      exact hK
    case body =>
      rintro lp pre d W ⟨⟨a, b, q, hz, hq, he⟩, hB, b1, b2⟩ hlt2
      have hzc := hz.cell
      have hfz := hz.frozen
      have hbc := b1.cell
      unfold restV at hbc
      have hby : 0 ≤ d % 256 ∧ d % 256 ≤ 255 := by omega
      gi_wp2_with fail
      refine ⟨trivial, ?_⟩
      refine (CallsIn.inRound lp (callsIn_wide.2 (step_any W hq hby b2.cell))).mono ?_
      rintro e w' ⟨rfl, rfl⟩
      gi_wp2_with fail
      have He : Byt (pre ++ [d]) → nextP q (d % 256) = chainP p (pre ++ [d]) := fun hby => by
        rw [chainP_snoc, he (fun x hx => hby x (by simp [hx])), byte_rest (hby d (by simp))]
      exact ⟨KeepsFrom.of_grownBy (grownBy_setCell' W zB _) (fun k e => by cases e; exact hzs), (Below.refl _ _).setCell hbz.2 _, ⟨_, _, _, hz.set _, Pt.fl (nextP_in _ _), He⟩, hB.setCell hbz.2 _, b1.other hbz.1.1 _, b2.other hbz.1.2 _⟩
    case done =>
      rintro D ys W hD rfl ⟨⟨a, b, q, hz, hq, he⟩, hB, b1, b2⟩ hK
      have hzc := hz.cell
      have He := Lib.hid he
      clear he
      gi_wp2
      refine leaves_marks [D] W ⟨by simp, fun d hd => ?_⟩ fun w' hw' => ⟨_, results_tmp rfl _ _ _, ?_, hB.trans hw'.1⟩
      · obtain rfl : d = D := by simpa using hd
        exact ⟨Nat.le_trans hB3' hD, hK⟩
      · exact ⟨a, b, rfl, by rw [← He.out (flat_byt hr)]; exact hq⟩
    case stop =>
      rintro D cc pre W _ _ h _
      exact h.elim
end Go.Proofs.YtcpdjhkpmaamdaaGreat.Ga

namespace Go.Proofs.YtcpdjhkpmaamdaaGreat.Ga
open Go.RowKit

theorem info_u8 : (Tryz.prog.info? 5).map (fun i => (i.zero, i.size, i.bytes)) = some (some (.int .u8 0), 1, 1) := by kernel_rfl
theorem info_int : (Tryz.prog.info? 3).map (fun i => (i.zero, i.size, i.bytes)) = some (some (.int .i64 0), 1, 8) := by kernel_rfl
theorem cells_u8 : Tryz.prog.cellsOf 5 = 1 := by kernel_rfl
theorem cells_int : Tryz.prog.cellsOf 3 = 1 := by kernel_rfl

theorem eql_same4 (a b c d : Int) (w : World) : (binOp .eql 99 (.agg #[.int .u8 a, .int .u8 b, .int .u8 c, .int .u8 d]) (.agg #[.int .u8 a, .int .u8 b, .int .u8 c, .int .u8 d])).run Tryz.prog w = .ok (.bool true) w := by
  obtain ⟨i, hi, _, _, _⟩ := info_parts info_u8
  rw [run_eql_struct, run_equalIn_array w 9999 _ _ Tryz.underlying99 hi, cells_u8]
  simp [Op.eqItems, List.range, List.range.loop, part, go_sem]
theorem chain_any {x y : Nat} {p : Int × Int} {A : Option Addr} {n : Nat} (c : Nat) {ps : List Part} (w : World) (hp : From x y p) (hr : Rds w w.heap.size A n ps) (hn : n ≤ 140737488355328) :
    Calls Tryz.prog 146 #[.complex .f64 x y, .slice A n c] w fun e w' => ChainOut (chainP p (flat ps)) e ∧ Below w.heap.size w w' :=
  callsIn_wide.1 (chain_in c w hp hr hn)
/-- .. of one part, or two, in a slice that was made for the call. -/
theorem chain_one {x y : Nat} {p : Int × Int} {A : Option Addr} {n c : Nat} {l : List Int} (w : World) (g : Nat) (t : TypeId) (hg : g = w.heap.size) (hp : From x y p) (hr : Rd w w.heap.size .u8 A n l) (hb : Byt l) (hn : n ≤ 140737488355328) :
    Calls Tryz.prog 146 #[.complex .f64 x y, .slice (some ⟨g, 0, none⟩) 1 1] (w.alloc (.cells #[.slice A n c] t)) fun e w' => ChainOut (chainP p l) e ∧ Below w.heap.size w w' := by
  have h := chain_any 1 (ps := [⟨A, n, c, l⟩]) _ hp (Rds.made w t [⟨A, n, c, l⟩] hg (fun q hq => by
    obtain rfl := List.mem_singleton.1 hq
    exact ⟨hr, hb, hn⟩)) (by simp)
  rw [flat_cons, flat_nil, List.append_nil] at h
  exact h.mono fun e w' ⟨he, hB⟩ => ⟨he, ((Below.refl _ w).alloc (Nat.le_refl _) _).trans (hB.mono (by simp))⟩
theorem chain_two {x y : Nat} {p : Int × Int} {A A' : Option Addr} {n c n' c' : Nat} {l l' : List Int} (w : World) (g : Nat) (t : TypeId) (hg : g = w.heap.size) (hp : From x y p) (hr : Rd w w.heap.size .u8 A n l) (hb : Byt l) (hn : n ≤ 140737488355328)
    (hr' : Rd w w.heap.size .u8 A' n' l') (hb' : Byt l') (hn' : n' ≤ 140737488355328) :
    Calls Tryz.prog 146 #[.complex .f64 x y, .slice (some ⟨g, 0, none⟩) 2 2] (w.alloc (.cells #[.slice A n c, .slice A' n' c'] t)) fun e w' => ChainOut (chainP p (l ++ l')) e ∧ Below w.heap.size w w' := by
  have h := chain_any 2 (ps := [⟨A, n, c, l⟩, ⟨A', n', c', l'⟩]) _ hp (Rds.made w t [⟨A, n, c, l⟩, ⟨A', n', c', l'⟩] hg (fun q hq => by
    rcases List.mem_cons.1 hq with rfl | hq
    · exact ⟨hr, hb, hn⟩
    · obtain rfl := List.mem_singleton.1 hq
      exact ⟨hr', hb', hn'⟩)) (by simp)
  rw [flat_cons, flat_cons, flat_nil, List.append_nil] at h
  exact h.mono fun e w' ⟨he, hB⟩ => ⟨he, ((Below.refl _ w).alloc (Nat.le_refl _) _).trans (hB.mono (by simp))⟩
theorem chain_none {x y : Nat} {p : Int × Int} (w : World) (hp : From x y p) :
    Calls Tryz.prog 146 #[.complex .f64 x y, .slice none 0 0] w fun e w' => ChainOut p e ∧ Below w.heap.size w w' :=
  chain_any 0 w hp (Rds.none_ w _) (by omega)

theorem bytes_out {x y : Nat} {p : Int × Int} {a b c d : Int} (w : World) (hp : Pt x y p) (h : bytesP p = [a, b, c, d]) :
    Calls Tryz.prog 160 #[.complex .f64 x y] w fun e w' => e = .returned (.agg #[.int .u8 a, .int .u8 b, .int .u8 c, .int .u8 d]) ∧ Below w.heap.size w w' := by
  have h1 := bytes_yes w hp
  rw [h] at h1
  exact h1
theorem rbytes_out {x y : Nat} {p : Int × Int} {a b c d : Int} (w : World) (hp : Pt x y p) (h : bytesP p = [a, b, c, d]) :
    Calls Tryz.prog 64 #[.complex .f64 x y] w fun e w' => e = .returned (.agg #[.int .u8 a, .int .u8 b, .int .u8 c, .int .u8 d]) ∧ Below w.heap.size w w' := by
  have h1 := rbytes_yes w hp
  rw [h] at h1
  exact h1
theorem rnext_out {x y : Nat} {p : Int × Int} {c : Int} (w : World) (hp : Pt x y p) (hb : 0 ≤ c ∧ c ≤ 255) :
    Calls Tryz.prog 55 #[.complex .f64 x y, .int .u8 c] w fun e w' => (∃ u v, e = .returned (.complex .f64 u v) ∧ Pt u v (nextP p c)) ∧ w = w' :=
  (rnext_yes w hp hb).mono fun _ _ ⟨he, hB⟩ => ⟨⟨_, _, he, Pt.fl (nextP_in _ _)⟩, hB⟩

/-- Two points' '==', as the walk spells it. -/
theorem Pt.order {x y u v : Nat} {p q : Int × Int} (h : Pt x y p) (k : Pt u v q) (e : p = q) : FloatKind.f64.format.order x u = some .eq ∧ FloatKind.f64.format.order y v = some .eq := by
  subst e
  exact ⟨by rw [h.re.order k.re, Int.compare_eq_eq.2 rfl], by rw [h.im.order k.im, Int.compare_eq_eq.2 rfl]⟩
theorem Pt.same {x y u v : Nat} {p q : Int × Int} (h : Pt x y p) (k : Pt u v q) : ((FloatKind.f64.format.order x u == some .eq) && (FloatKind.f64.format.order y v == some .eq)) = decide (p = q) := by
  rw [h.re.eq k.re, h.im.eq k.im, Bool.eq_iff_iff, Bool.and_eq_true, decide_eq_true_iff, decide_eq_true_iff, decide_eq_true_iff]
  exact ⟨fun ⟨a, b⟩ => Prod.ext a b, fun e => by rw [e]; exact ⟨rfl, rfl⟩⟩
theorem pt_lit {x y : Nat} {a b : Int} (h1 : fl a = x) (h2 : fl b = y) (ha : 0 ≤ a ∧ a ≤ 10006) (hb : 0 ≤ b ∧ b ≤ 10006) : Pt x y (a, b) := by
  subst h1 h2
  exact Pt.fl (inP_mk ha.1 ha.2 hb.1 hb.2)
end Go.Proofs.YtcpdjhkpmaamdaaGreat.Ga

