/-
  Sums: bytes put together by exclusive or, bursts (stage 3's texts, as one).
-/
import Derived.Test.YtafeadplmcoilaaDoorCrcR
namespace Go.Proofs.YtafeadplmcoilaaDoor.Cr
open Go.RowKit

/-! ### Three rows put together -/
theorem byte_nat (a : Nat) (ha : a < 256) : (BitVec.ofInt 8 (a : Int)).toNat = a := by
  rw [BitVec.ofInt_natCast, BitVec.toNat_ofNat]
  omega
theorem xor_nat (a b : Nat) (ha : a < 256) (hb : b < 256) : bits .xor .u8 (a : Int) (b : Int) = ((a ^^^ b : Nat) : Int) := by
  have hx : a ^^^ b < 256 := Nat.xor_lt_two_pow (n := 8) ha hb
  show IntKind.u8.wrap ((BitVec.ofInt 8 (a : Int) ^^^ BitVec.ofInt 8 (b : Int)).toNat : Int) = _
  rw [BitVec.toNat_xor, byte_nat a ha, byte_nat b hb, IntKind.wrap_u8]
  omega
theorem xor_int {x y : Int} (hx : 0 ≤ x ∧ x ≤ 255) (hy : 0 ≤ y ∧ y ≤ 255) : bits .xor .u8 x y = ((x.toNat ^^^ y.toNat : Nat) : Int) := by
  have e := xor_nat x.toNat y.toNat (by omega) (by omega)
  rwa [show ((x.toNat : Nat) : Int) = x by omega, show ((y.toNat : Nat) : Int) = y by omega] at e
theorem xor_int_range (x y : Int) (hx : 0 ≤ x ∧ x ≤ 255) (hy : 0 ≤ y ∧ y ≤ 255) : 0 ≤ ((x.toNat ^^^ y.toNat : Nat) : Int) ∧ ((x.toNat ^^^ y.toNat : Nat) : Int) ≤ 255 := by
  have hlt : x.toNat ^^^ y.toNat < 256 := Nat.xor_lt_two_pow (n := 8) (by omega) (by omega)
  omega
theorem natL_length (l : List Int) : (natL l).length = l.length := List.length_map ..
end Go.Proofs.YtafeadplmcoilaaDoor.Cr

namespace Go.Proofs.YtafeadplmcoilaaDoor.Cr
open Go.RowKit

/-- The first j of the four bytes from place k on are put together with y's. -/
def mixI (M : List Int) (k : Nat) (y : List Int) : Nat → List Int
  | 0 => M
  | j + 1 => (mixI M k y j).set (k + j) (bits .xor .u8 (M[k + j]?.getD 0) (y[j]?.getD 0))
theorem mixI_length (M : List Int) (k : Nat) (y : List Int) (j : Nat) : (mixI M k y j).length = M.length := by
  induction j with
  | zero => rfl
  | succ j ih => rw [mixI, List.length_set, ih]
theorem mixI_out (M : List Int) (k : Nat) (y : List Int) (j i : Nat) (h : i < k ∨ k + j ≤ i) : (mixI M k y j)[i]? = M[i]? := by
  induction j with
  | zero => rfl
  | succ j ih => rw [mixI, List.getElem?_set_ne (by omega), ih (by omega)]
theorem mixI_in (M : List Int) (k : Nat) (y : List Int) (j i : Nat) (h : i < j) (hM : k + i < M.length) : (mixI M k y j)[k + i]? = some (bits .xor .u8 (M[k + i]?.getD 0) (y[i]?.getD 0)) := by
  induction j with
  | zero => omega
  | succ j ih =>
    rw [mixI]
    by_cases hij : i = j
    · subst hij
      rw [List.getElem?_set_self (by rw [mixI_length]; exact hM)]
    · rw [List.getElem?_set_ne (by omega), ih (by omega)]
theorem mixI_at (M : List Int) (k : Nat) (y : List Int) (j i : Nat) (hM : k + i < M.length) (hB : Byt M) (hy : Byt y) (h : i < j) :
    (mixI M k y j)[k + i]? = some ((((M[k + i]?.getD 0).toNat ^^^ (y[i]?.getD 0).toNat : Nat) : Int)) := by
  rw [mixI_in M k y j i h hM, xor_int (hB.at_ _) (hy.at_ _)]
theorem mixI_byt {M : List Int} {k : Nat} {y : List Int} {j : Nat} (hB : Byt M) (hy : Byt y) : Byt (mixI M k y j) := by
  intro x hx
  obtain ⟨i, hi, rfl⟩ := List.mem_iff_getElem.1 hx
  rw [mixI_length] at hi
  have he : (mixI M k y j)[i]? = some _ := List.getElem?_eq_getElem (by rw [mixI_length]; exact hi)
  by_cases h : k ≤ i ∧ i < k + j
  · obtain ⟨m, rfl⟩ : ∃ m, i = k + m := ⟨i - k, by omega⟩
    rw [mixI_at M k y j m hi hB hy (by omega)] at he
    have h1 := Option.some.inj he
    have h2 := xor_int_range _ _ (hB.at_ (k + m)) (hy.at_ m)
    rw [← h1]
    exact h2
  · rw [mixI_out M k y j i (by omega)] at he
    exact hB _ (List.mem_of_getElem? he)
theorem burst_at {k a b c d r i : Nat} : (burst k a b c d r)[i]? = if i < k then some 0 else if i < k + 4 then [a, b, c, d][i - k]? else if i < k + 4 + r then some 0 else none := by
  unfold burst noughts
  by_cases h1 : i < k
  · rw [if_pos h1, List.getElem?_append_left (by rw [List.length_replicate]; exact h1), List.getElem?_replicate, if_pos h1]
  · rw [if_neg h1, List.getElem?_append_right (by rw [List.length_replicate]; omega), List.length_replicate]
    by_cases h2 : i < k + 4
    · rw [if_pos h2, List.getElem?_append_left (by simp; omega)]
    · rw [if_neg h2, List.getElem?_append_right (by simp; omega), List.getElem?_replicate]
      by_cases h3 : i < k + 4 + r
      · rw [if_pos h3, if_pos (by simp; omega)]
      · rw [if_neg h3, if_neg (by simp; omega)]
theorem natL_mix {M : List Int} {k r : Nat} {a b c d : Int} (hB : Byt M) (hy : Byt [a, b, c, d]) (hM : M.length = k + 4 + r) :
    natL (mixI M k [a, b, c, d] 4) = xorL (natL M) (burst k a.toNat b.toNat c.toNat d.toNat r) := by
  refine List.ext_getElem? fun i => ?_
  unfold xorL natL
  rw [List.getElem?_zipWith, List.getElem?_map, List.getElem?_map, burst_at]
  by_cases h1 : i < k
  · rw [if_pos h1, mixI_out _ _ _ _ _ (by omega), List.getElem?_eq_getElem (show i < M.length by omega)]
    simp
  · rw [if_neg h1]
    by_cases h2 : i < k + 4
    · rw [if_pos h2]
      obtain ⟨m, rfl⟩ : ∃ m, i = k + m := ⟨i - k, by omega⟩
      rw [mixI_at M k _ 4 m (by omega) hB hy (by omega), Nat.add_sub_cancel_left, List.getElem?_eq_getElem (show k + m < M.length by omega)]
      rcases (by omega : m = 0 ∨ m = 1 ∨ m = 2 ∨ m = 3) with rfl | rfl | rfl | rfl <;> simp
    · rw [if_neg h2, mixI_out _ _ _ _ _ (by omega)]
      by_cases h3 : i < k + 4 + r
      · rw [if_pos h3, List.getElem?_eq_getElem (show i < M.length by omega)]
        simp
      · rw [if_neg h3, List.getElem?_eq_none (show M.length ≤ i by omega)]
        simp
theorem byt4 {a b c d : Int} (ha : 0 ≤ a ∧ a ≤ 255) (hb : 0 ≤ b ∧ b ≤ 255) (hc : 0 ≤ c ∧ c ≤ 255) (hd : 0 ≤ d ∧ d ≤ 255) : Byt [a, b, c, d] := by
  intro x hx
  simp at hx
  omega
/-- The sums differ. -/
theorem mix_sum {M : List Int} {k : Nat} {a b c d : Int} (hB : Byt M) (hk : k + 4 ≤ M.length) (ha : 0 ≤ a ∧ a ≤ 255) (hb : 0 ≤ b ∧ b ≤ 255) (hc : 0 ≤ c ∧ c ≤ 255) (hd : 0 ≤ d ∧ d ≤ 255) (h : ¬ (a = 0 ∧ b = 0 ∧ c = 0 ∧ d = 0)) :
    sumI (mixI M k [a, b, c, d] 4) ≠ sumI M := by
  intro h0
  have hM : M.length = k + 4 + (M.length - (k + 4)) := by omega
  have e := natL_mix hB (byt4 ha hb hc hd) hM
  have h1 := sumN_differs (l := natL M) (k := k) (a := a.toNat) (b := b.toNat) (c := c.toNat) (d := d.toNat) (r := M.length - (k + 4)) (by rw [natL_length]; exact hM) (natL_byt hB) (by omega) (by omega) (by omega) (by omega) (by omega)
  rw [← e] at h1
  unfold sumI at h0
  omega
/-- .. and no sum is taken. -/
theorem mix_no {l : List Int} {k : Nat} {a b c d : Int} (hB : Byt l) (hk : k ≤ l.length) (ha : 0 ≤ a ∧ a ≤ 255) (hb : 0 ≤ b ∧ b ≤ 255) (hc : 0 ≤ c ∧ c ≤ 255) (hd : 0 ≤ d ∧ d ≤ 255) (h : ¬ (a = 0 ∧ b = 0 ∧ c = 0 ∧ d = 0)) :
    okB (mixI (l ++ fourI (sumI l)) k [a, b, c, d] 4) = false := by
  have hs := sumI_range l
  have h4 : (fourI (sumI l)).length = 4 := rfl
  have hBM : Byt (l ++ fourI (sumI l)) := hB.append (fourI_byt hs)
  have hlen : (l ++ fourI (sumI l)).length = k + 4 + (l.length - k) := by rw [List.length_append, h4]; omega
  have e := natL_mix hBM (byt4 ha hb hc hd) hlen
  have eN : natL (l ++ fourI (sumI l)) = natL l ++ bytesN (sumN (natL l)) := by
    rw [natL_append, fourI_four hs]
    congr 2
  rw [eN] at e
  have h1 := take_differs (l := natL l) (n := l.length) (k := k) (a := a.toNat) (b := b.toNat) (c := c.toNat) (d := d.toNat) (r := l.length - k) (natL_length l) (by omega) (natL_byt hB) (by omega) (by omega) (by omega) (by omega) (by omega)
  rw [← e] at h1
  have hL : (mixI (l ++ fourI (sumI l)) k [a, b, c, d] 4).length - 4 = l.length := by rw [mixI_length, List.length_append, h4]; omega
  unfold okB
  rw [hL, Bool.and_eq_false_iff]
  right
  by_cases hq : eqB ((mixI (l ++ fourI (sumI l)) k [a, b, c, d] 4).take l.length ++ fourI (sumI ((mixI (l ++ fourI (sumI l)) k [a, b, c, d] 4).take l.length))) (mixI (l ++ fourI (sumI l)) k [a, b, c, d] 4) = true
  · exfalso
    rw [eqB_iff] at hq
    generalize mixI (l ++ fourI (sumI l)) k [a, b, c, d] 4 = L at *
    have h2 : L.take l.length ++ L.drop l.length = L := List.take_append_drop _ _
    have h3 : fourI (sumI (L.take l.length)) = L.drop l.length := List.append_cancel_left (hq.trans h2.symm)
    refine h1 ?_
    have h5 : (natL L).drop l.length = natL (L.drop l.length) := by unfold natL; rw [List.map_drop]
    have h6 : (natL L).take l.length = natL (L.take l.length) := by unfold natL; rw [List.map_take]
    rw [h5, h6, ← h3, fourI_four (sumI_range _)]
    congr 1
  · simpa using hq
end Go.Proofs.YtafeadplmcoilaaDoor.Cr

