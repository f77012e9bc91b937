/-
  Order: plain facts; no program is named here.
-/
import Derived.Test.YtbpinikldcakfaaPureD
import Derived.Test.YtbpinikldcakfaaSame
import GoSem.Op.String
namespace Go.Proofs.Ytbpinikldcakfaa
open Go

def lessL : List Int → List Int → Bool
  | _, [] => false
  | [], _ :: _ => true
  | a :: x, b :: y => decide (a < b) || (a == b && lessL x y)
theorem ofNat_lt {a b : Int} (ha : 0 ≤ a ∧ a ≤ 255) (hb : 0 ≤ b ∧ b ≤ 255) : (decide (UInt8.ofNat a.toNat < UInt8.ofNat b.toNat)) = decide (a < b) := by
  have e1 := UInt8.toNat_ofNat_of_lt' (n := a.toNat) (by simp [UInt8.size]; omega)
  have e2 := UInt8.toNat_ofNat_of_lt' (n := b.toNat) (by simp [UInt8.size]; omega)
  rw [Bool.eq_iff_iff, decide_eq_true_iff, decide_eq_true_iff, UInt8.lt_iff_toNat_lt, e1, e2]
  omega
theorem ofNat_eq {a b : Int} (ha : 0 ≤ a ∧ a ≤ 255) (hb : 0 ≤ b ∧ b ≤ 255) : (UInt8.ofNat a.toNat == UInt8.ofNat b.toNat) = (a == b) := by
  have e1 := UInt8.toNat_ofNat_of_lt' (n := a.toNat) (by simp [UInt8.size]; omega)
  have e2 := UInt8.toNat_ofNat_of_lt' (n := b.toNat) (by simp [UInt8.size]; omega)
  rw [Bool.eq_iff_iff, beq_iff_eq, beq_iff_eq, ← UInt8.toNat_inj, e1, e2]
  omega
theorem bytesLess_map : ∀ (l m : List Int), Byt l → Byt m → Op.bytesLess (l.map fun n => UInt8.ofNat n.toNat) (m.map fun n => UInt8.ofNat n.toNat) = lessL l m := by
  intro l
  induction l with
  | nil => intro m _ _; cases m <;> rfl
  | cons a l ih =>
    intro m hl hm
    cases m with
    | nil => rfl
    | cons b m =>
      have ha := hl a (by simp)
      have hb := hm b (by simp)
      simp only [List.map_cons, Op.bytesLess, lessL]
      rw [ih m (fun x hx => hl x (by simp [hx])) (fun x hx => hm x (by simp [hx])), ofNat_eq ha hb, ofNat_lt ha hb]
theorem txt_less {l m : List Int} (hl : Byt l) (hm : Byt m) : Op.bytesLess (txt l).toList (txt m).toList = lessL l m := by
  rw [ByteArray.toList_eq, ByteArray.toList_eq]
  exact bytesLess_map l m hl hm

theorem long_byt (n : Int) : Byt (longOf n) := by
  rw [long_eq]
  intro x hx
  simp only [List.mem_cons, List.not_mem_nil, or_false] at hx
  omega
theorem short_byt {n : Int} (h0 : 0 ≤ n) (h1 : n ≤ 1073741824) : Byt (shortOf n) := by
  rcases five h0 h1 with h | ⟨h, h'⟩ | ⟨h, h'⟩ | ⟨h, h'⟩ | ⟨h, h'⟩
  · rw [short_1 h0 h]; intro x hx; simp only [List.mem_cons, List.not_mem_nil, or_false] at hx; omega
  · rw [short_2 h h']; intro x hx; simp only [List.mem_cons, List.not_mem_nil, or_false] at hx; omega
  · rw [short_3 h h']; intro x hx; simp only [List.mem_cons, List.not_mem_nil, or_false] at hx; omega
  · rw [short_4 h h']; intro x hx; simp only [List.mem_cons, List.not_mem_nil, or_false] at hx; omega
  · rw [short_5 h h']; intro x hx; simp only [List.mem_cons, List.not_mem_nil, or_false] at hx; omega
theorem lessL_self (l : List Int) : lessL l l = false := by
  induction l with
  | nil => rfl
  | cons a l ih => simp [lessL, ih]
theorem long_less {n m : Int} (h0 : 0 ≤ n) (h : n < m) (h1 : m ≤ 1073741824) : lessL (longOf n) (longOf m) = true := by
  rw [long_eq, long_eq]
  simp only [lessL, Bool.or_eq_true, Bool.and_eq_true, decide_eq_true_eq, beq_iff_eq]
  have e1 : n / 4294967296 % 256 = 0 := by omega
  have e2 : m / 4294967296 % 256 = 0 := by omega
  rw [e1, e2]
  have f1 : n = n / 16777216 % 256 * 16777216 + n / 65536 % 256 * 65536 + n / 256 % 256 * 256 + n % 256 := by omega
  have f2 : m = m / 16777216 % 256 * 16777216 + m / 65536 % 256 * 65536 + m / 256 % 256 * 256 + m % 256 := by omega
  have g : ∀ x : Int, 0 ≤ x % 256 ∧ x % 256 < 256 := fun x => by omega
  have a1 := g (n / 16777216)
  have a2 := g (n / 65536)
  have a3 := g (n / 256)
  have a4 := g n
  have b1 := g (m / 16777216)
  have b2 := g (m / 65536)
  have b3 := g (m / 256)
  have b4 := g m
  clear e1 e2 g
  refine .inr ⟨rfl, ?_⟩
  generalize n / 16777216 % 256 = x1 at *
  generalize n / 65536 % 256 = x2 at *
  generalize n / 256 % 256 = x3 at *
  generalize n % 256 = x4 at *
  generalize m / 16777216 % 256 = y1 at *
  generalize m / 65536 % 256 = y2 at *
  generalize m / 256 % 256 = y3 at *
  generalize m % 256 = y4 at *
  by_cases h1 : x1 < y1
  · exact .inl h1
  · refine .inr ⟨by omega, ?_⟩
    by_cases h2 : x2 < y2
    · exact .inl h2
    · refine .inr ⟨by omega, ?_⟩
      by_cases h3 : x3 < y3
      · exact .inl h3
      · exact .inr ⟨by omega, .inl (by omega)⟩

theorem cnt_eq {n : Int} (h0 : 0 ≤ n) (h1 : n ≤ 1073741824) : cnt n = if n < 128 then 1 else if n < 16384 then 2 else if n < 2097152 then 3 else if n < 268435456 then 4 else 5 := by
  rcases five h0 h1 with h | ⟨h, h'⟩ | ⟨h, h'⟩ | ⟨h, h'⟩ | ⟨h, h'⟩
  · rw [cnt_1 h, if_pos h]
  · rw [cnt_2 h h', if_neg (by omega), if_pos h']
  · rw [cnt_3 h h', if_neg (by omega), if_neg (by omega), if_pos h']
  · rw [cnt_4 h h', if_neg (by omega), if_neg (by omega), if_neg (by omega), if_pos h']
  · rw [cnt_5 h h', if_neg (by omega), if_neg (by omega), if_neg (by omega), if_neg (by omega)]
theorem cnt_mono {n m : Int} (h0 : 0 ≤ n) (h : n ≤ m) (h1 : m ≤ 1073741824) : cnt n ≤ cnt m := by
  rw [cnt_eq h0 (by omega), cnt_eq (by omega) h1]
  repeat' split
  all_goals omega
theorem cnt_bd {n : Int} (h0 : 0 ≤ n) (h1 : n ≤ 1073741824) : 1 ≤ cnt n ∧ cnt n ≤ 5 := (howMany_7 ⟨h0, h1⟩).2
theorem short_prefix {n m : Int} (h0 : 0 ≤ n) (h : n < m) (h1 : m ≤ 1073741824) : eqB (shortOf n) ((shortOf m).take (cnt n)) = false := by
  simp only [eqB, decide_eq_false_iff_not]
  intro e
  have h2 := takeP_short (n := m) (by omega) h1 []
  rw [List.append_nil, ← List.take_append_drop (cnt n) (shortOf m), ← e, takeP_short h0 (by omega)] at h2
  simp at h2
  omega
theorem short_whole {n : Int} : eqB (shortOf n) ((shortOf n).take (cnt n)) = true := by
  rw [List.take_of_length_le (by rw [shortOf_length]; exact Nat.le_refl _)]
  exact eqB_true rfl

end Go.Proofs.Ytbpinikldcakfaa
