/-
  Short bytes and sums behind texts, plainly (of stage 9's texts).
-/
import Derived.Test.YtafeadplmcoilaaDoorNumT
import Derived.Test.YtafeadplmcoilaaDoorNumU
import Derived.Test.YtafeadplmcoilaaDoorCrcH
namespace Go.Proofs.YtafeadplmcoilaaDoor
open Go.RowKit
set_option linter.unusedVariables false

theorem shorts_byt {l : List Int} (h : Nu.allNum l = true) : Byt (Nu.shortsOf l) := fun x hx => by
  obtain ⟨n, hn, hx⟩ := List.mem_flatMap.1 hx
  have h1 := Nu.isNum_iff.1 (List.all_eq_true.1 h n hn)
  exact Nu.short_byt h1.1 h1.2 x hx
theorem shorts_same {l m : List Int} (hl : Nu.allNum l = true) (hm : Nu.allNum m = true) (hlen : l.length = m.length) {r s : List Int} (h : Nu.shortsOf l ++ r = Nu.shortsOf m ++ s) : l = m ∧ r = s := by
  have h1 := Nu.takesP_short hl r
  have h2 := Nu.takesP_short hm s
  rw [h, hlen] at h1
  rw [h1] at h2
  simp only [Prod.mk.injEq, and_true] at h2
  exact h2
theorem byt_cons {a : Int} {l : List Int} (ha : 0 ≤ a ∧ a ≤ 255) (hl : Byt l) : Byt (a :: l) := fun x hx => by
  rcases List.mem_cons.1 hx with rfl | h
  · exact ha
  · exact hl x h
theorem fourI_length (x : Int) : (Cr.fourI x).length = 4 := rfl
def sealL (l : List Int) : List Int := l ++ Cr.fourI (Cr.sumI l)
theorem seal_harm {T : List Int} (hT : Byt T) {m : Nat} (hm : m < T.length + 4) {y : Int} (hy : 0 ≤ y ∧ y ≤ 255) (h0 : y ≠ 0) : Cr.okB ((sealL T).set m (bits .xor .u8 ((sealL T)[m]?.getD 0) y)) = false := by
  obtain ⟨n, hn⟩ : ∃ n, T.length = n := ⟨_, rfl⟩
  have hlen : (sealL T).length = n + 4 := by rw [sealL, List.length_append, hn, fourI_length]
  rw [hn] at hm
  have x0 : ∀ x : Int, 0 ≤ x ∧ x ≤ 255 → bits .xor .u8 x 0 = x := fun x hx => by
    rw [Cr.xor_int hx (by omega), Int.toNat_zero, Nat.xor_zero]; omega
  have hb : Byt (sealL T) := hT.append (Cr.fourI_byt (Cr.sumI_range _))
  by_cases h11 : m ≤ n
  · have h1 := Cr.mix_no (l := T) (k := m) (a := y) (b := 0) (c := 0) (d := 0) hT (by rw [hn]; exact h11) hy (by omega) (by omega) (by omega) (by omega)
    have e1 : Cr.mixI (T ++ Cr.fourI (Cr.sumI T)) m [y, 0, 0, 0] 4 = (sealL T).set m (bits .xor .u8 ((sealL T)[m]?.getD 0) y) := by
      change Cr.mixI (sealL T) m [y, 0, 0, 0] 4 = _
      refine List.ext_getElem? fun i => ?_
      by_cases hi : i = m
      · subst hi
        rw [List.getElem?_set_self (by rw [hlen]; exact hm)]
        exact Cr.mixI_in _ _ _ 4 0 (by omega) (by rw [hlen]; exact hm)
      · rw [List.getElem?_set_ne (by omega)]
        by_cases h2 : m < i ∧ i < m + 4 ∧ i < n + 4
        · obtain ⟨j, rfl⟩ : ∃ j, i = m + j := ⟨i - m, by omega⟩
          rw [Cr.mixI_in _ _ _ 4 j (by omega) (by rw [hlen]; omega)]
          have : ([y, 0, 0, 0] : List Int)[j]?.getD 0 = 0 := by
            rcases (by omega : j = 1 ∨ j = 2 ∨ j = 3) with rfl | rfl | rfl <;> rfl
          rw [this, x0 _ (hb.at_ _), List.getElem?_eq_getElem (by rw [hlen]; omega)]
          rfl
        · by_cases h3 : i < n + 4
          · exact Cr.mixI_out _ _ _ _ _ (by omega)
          · rw [List.getElem?_eq_none (by rw [Cr.mixI_length, hlen]; omega), List.getElem?_eq_none (by rw [hlen]; omega)]
    rwa [e1] at h1
  · have key : ∀ (q : List Int), Byt q → (∀ j, j < 4 → q[j]?.getD 0 = if j = m - n then y else 0) → Cr.mixI (sealL T) n q 4 = (sealL T).set m (bits .xor .u8 ((sealL T)[m]?.getD 0) y) := fun q hq hj => by
      refine List.ext_getElem? fun i => ?_
      by_cases hi : i < n ∨ n + 4 ≤ i
      · rw [Cr.mixI_out _ _ _ _ _ (by omega), List.getElem?_set_ne (by omega)]
      · obtain ⟨j, rfl⟩ : ∃ j, i = n + j := ⟨i - n, by omega⟩
        rw [Cr.mixI_in _ _ _ 4 j (by omega) (by rw [hlen]; omega), hj j (by omega)]
        by_cases hjm : j = m - n
        · have : n + j = m := by omega
          rw [if_pos hjm, this, List.getElem?_set_self (by rw [hlen]; exact hm)]
        · rw [if_neg hjm, x0 _ (hb.at_ _), List.getElem?_set_ne (by omega), List.getElem?_eq_getElem (by rw [hlen]; omega)]
          rfl
    obtain ⟨d, hd⟩ : ∃ d, m = n + d := ⟨m - n, by omega⟩
    rcases (by omega : d = 1 ∨ d = 2 ∨ d = 3) with rfl | rfl | rfl
    · have h1 := Cr.mix_no (l := T) (k := n) (a := 0) (b := y) (c := 0) (d := 0) hT (by omega) (by omega) hy (by omega) (by omega) (by omega)
      have e1 := key [0, y, 0, 0] (Cr.byt4 (by omega) hy (by omega) (by omega)) (fun j hj => by rw [hd, Nat.add_sub_cancel_left]; rcases (by omega : j = 0 ∨ j = 1 ∨ j = 2 ∨ j = 3) with rfl | rfl | rfl | rfl <;> rfl)
      rw [← e1]; exact h1
    · have h1 := Cr.mix_no (l := T) (k := n) (a := 0) (b := 0) (c := y) (d := 0) hT (by omega) (by omega) (by omega) hy (by omega) (by omega)
      have e1 := key [0, 0, y, 0] (Cr.byt4 (by omega) (by omega) hy (by omega)) (fun j hj => by rw [hd, Nat.add_sub_cancel_left]; rcases (by omega : j = 0 ∨ j = 1 ∨ j = 2 ∨ j = 3) with rfl | rfl | rfl | rfl <;> rfl)
      rw [← e1]; exact h1
    · have h1 := Cr.mix_no (l := T) (k := n) (a := 0) (b := 0) (c := 0) (d := y) hT (by omega) (by omega) (by omega) (by omega) hy (by omega)
      have e1 := key [0, 0, 0, y] (Cr.byt4 (by omega) (by omega) (by omega) hy) (fun j hj => by rw [hd, Nat.add_sub_cancel_left]; rcases (by omega : j = 0 ∨ j = 1 ∨ j = 2 ∨ j = 3) with rfl | rfl | rfl | rfl <;> rfl)
      rw [← e1]; exact h1
theorem seal_ok {T : List Int} (hT : Byt T) : Cr.okB (sealL T) = true := by
  have h : (sealL T).length - 4 = T.length := by rw [sealL, List.length_append, fourI_length]; omega
  unfold Cr.okB
  rw [h, sealL, List.take_left]
  simp [fourI_length, Cr.eqB]

end Go.Proofs.YtafeadplmcoilaaDoor
