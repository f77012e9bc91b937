/-
  one.put and the document's record: their contracts.
-/
import Derived.Test.YtlblfpfdebmcgaaDoorOneS
namespace Go.Proofs.YtlblfpfdebmcgaaDoor
open Go.RowKit
set_option linter.unusedVariables false

/-! ### Records -/
theorem num_two (n m : Int) : Nu.allNum [n, m] = decide ((0 ≤ n ∧ n ≤ 1073741824) ∧ (0 ≤ m ∧ m ≤ 1073741824)) := by
  rw [Bool.eq_iff_iff]
  simp [Nu.allNum, Nu.isNum]
theorem longs_two (n m : Int) : Nu.longsOf [n, m] = Nu.longOf n ++ Nu.longOf m := by simp [Nu.longsOf]
section
variable (A : Option Addr) (c : Nat) (n m : Int) (w : World) (hr : Rd w w.heap.size .i64 A 2 [n, m])
include hr
theorem long_yes2 (hn : (0 ≤ n ∧ n ≤ 1073741824) ∧ (0 ≤ m ∧ m ≤ 1073741824)) : Calls Tryd.prog 23 #[.slice A 2 c] w fun e w' => (∃ A' c', e = .returned (.tuple #[.slice A' 10 c', .int .i64 0]) ∧ 10 ≤ c' ∧ Rd w' w'.heap.size .u8 A' 10 (Nu.longOf n ++ Nu.longOf m)) ∧ Below w.heap.size w w' := by
  refine (callsIn_wide.1 (Nu.long_in A 2 c [n, m] w hr (by omega))).mono ?_
  rintro e w' ⟨⟨v, rfl, hg⟩, hb⟩
  have ha : Nu.allNum [n, m] = true := by rw [num_two]; simpa using hn
  rw [ha, if_pos rfl, longs_two] at hg
  obtain ⟨A', c', rfl, hc, hrd⟩ := hg
  have e10 : (Nu.longOf n ++ Nu.longOf m).length = 10 := by rw [List.length_append, Nu.longOf_length, Nu.longOf_length]
  rw [e10] at hc hrd ⊢
  exact ⟨⟨A', c', by rw [ha]; rfl, hc, hrd⟩, hb⟩
theorem long_no2 (hn : ¬ ((0 ≤ n ∧ n ≤ 1073741824) ∧ (0 ≤ m ∧ m ≤ 1073741824))) : Calls Tryd.prog 23 #[.slice A 2 c] w fun e w' => (∃ v, e = .returned (.tuple #[v, .int .i64 2])) ∧ Below w.heap.size w w' := by
  refine (callsIn_wide.1 (Nu.long_in A 2 c [n, m] w hr (by omega))).mono ?_
  rintro e w' ⟨⟨v, rfl, hg⟩, hb⟩
  have ha : Nu.allNum [n, m] = false := by rw [num_two]; simpa using hn
  exact ⟨⟨v, by rw [ha]; rfl⟩, hb⟩
end
/-- One record told, or an error. -/
def PutOne (x : EnP) (e : Ending) (w' : World) : Prop :=
  (RightP x ∧ ∃ A c, e = .returned (.tuple #[.slice A 15 c, .int .i64 0]) ∧ 15 ≤ c ∧ Rd w' w'.heap.size .u8 A 15 (recL x)) ∨ (¬ RightP x ∧ e = .returned (.tuple #[.slice none 0 0, .int .i64 2]))

set_option maxRecDepth 100000 in
set_option maxHeartbeats 2000000 in
theorem put1_any (x : EnP) (w : World) (hT : Cr.Tab w) : Calls Tryd.prog 36 #[x.v] w fun e w' => PutOne x e w' ∧ Below w.heap.size w w' := by
  obtain ⟨i0, hi, hz0, hz1, hz2⟩ := info_parts Cr.info_u8
  obtain ⟨t, k, v⟩ := x
  unfold EnP.v
  obtain ⟨wx, hwx⟩ : ∃ wx, wx = w.alloc (.cells #[.int .i64 t, .int .i64 k, .int .i64 v] 40) := ⟨_, rfl⟩
  have bx : BoxE wx w.heap.size ⟨t, k, v⟩ := by rw [hwx]; exact BoxE.new w ⟨t, k, v⟩
  have hBx : Below w.heap.size w wx := by rw [hwx]; exact (Below.refl _ w).alloc (Nat.le_refl _) _
  obtain ⟨k0, k1, k2⟩ := bx.cells
  have hr1 : Rd (wx.alloc (.cells #[.int .i64 t, .int .i64 v] 3)) (wx.alloc (.cells #[.int .i64 t, .int .i64 v] 3)).heap.size .i64 (some ⟨w.heap.size + 1, 0, none⟩) 2 [t, v] := Cr.Rd.made wx .i64 3 [t, v] (by rw [hwx]; simp)
  have hB1 : Below w.heap.size w (wx.alloc (.cells #[.int .i64 t, .int .i64 v] 3)) := hBx.alloc hBx.size _
  have bx1 : BoxE (wx.alloc (.cells #[.int .i64 t, .int .i64 v] 3)) w.heap.size ⟨t, k, v⟩ := bx.below ((Below.refl _ wx).alloc (Nat.le_refl _) _)
  go_enter Tryd.func36, Tryd.ntmps36
  go_wp2_with fail
  rw [← hwx]
  by_cases hn : (0 ≤ t ∧ t ≤ 1073741824) ∧ (0 ≤ v ∧ v ≤ 1073741824)
  · refine (long_yes2 _ 2 t v _ hr1 hn).mono ?_
    rintro e w2 ⟨⟨A, c, rfl, hc, hrd⟩, hb2⟩
    have bx2 := bx1.below hb2
    have hB2 := hB1.trans (hb2.mono hB1.size)
    obtain ⟨k0', k1', k2'⟩ := bx2.cells
    have HT := Lib.hid (hT.on hB2)
    have HF := Lib.hid (⟨hn, hB2, hrd, bx2⟩ : _ ∧ _ ∧ _ ∧ _)
    clear hn hrd bx2 hB2 hb2 bx1 hB1 hr1 k0 k1 k2 bx hwx hBx hT
    by_cases hR : RightP ⟨t, k, v⟩
    · have e1 := rightB_iff.2 hR
      have HR := Lib.hid hR
      clear hR
      go_wp2_with fail
      refine (right_any ⟨t, k, v⟩ _).mono ?_
      rintro e w3 ⟨rfl, hb3⟩
      rw [e1]
      clear e1
      have hB3 := HF.out.2.1.trans (hb3.mono HF.out.2.1.size)
      have hr3 := HF.out.2.2.1.on hb3 hb3.size
      have bx3 := HF.out.2.2.2.below hb3
      obtain ⟨b, off, rfl, hbl, hcell⟩ := hr3.at_ (by omega)
      obtain ⟨q0, q1, q2⟩ := bx3.cells
      have HT3 := Lib.hid (HT.out.on hb3)
      have HB3 := Lib.hid (⟨hB3, hr3, bx3⟩ : _ ∧ _ ∧ _)
      clear hb3 hB3 hr3 bx3 hcell hbl k0' k1' k2'
      go_wp2_with (at_make; refine hold ?_)
      refine unhold (wpList_make_own _ rfl _ _ 23 rfl w3.heap.size 5 i0 (.int .u8 0) 1 Tryd.underlying23 hi hz0 hz1 _ _ _ 11 rfl rfl (by omega) (by rw [hz2]; omega) (by unfold maxLen; omega) (Nat.le_refl _) ?_)
      intro w4 own4 grow4
      have hB4 : Below w3.heap.size w3 w4 := (Below.refl _ w3).grown grow4 (Nat.le_refl _) (fun k e => by cases e)
      have hr4 := HB3.out.2.1.below hB4
      have hf4 : Rd w4 w3.heap.size .u8 (some ⟨b, off, none⟩) 5 (Nu.longOf t) := by
        have h1 := hr4.first (m := 5) (by omega)
        rwa [List.take_append_of_le_length (by rw [Nu.longOf_length]; omega), List.take_of_length_le (by rw [Nu.longOf_length]; omega)] at h1
      have hc5 : ¬ c = 5 := by omega
      have hs4 : Rd w4 w3.heap.size .u8 (some ⟨b, off + 5, none⟩) 5 (Nu.longOf v) := by
        have h1 := Nu.Rd.cut_at (m := 5) hr4 (by omega)
        have e5 : (Nu.longOf t ++ Nu.longOf v).drop 5 = Nu.longOf v := by rw [← Nu.longOf_length t]; exact List.drop_left
        rw [e5] at h1
        exact h1
      go_wp2_with (at_builtin; refine hold ?_)
      refine unhold (Cr.wpList_append_rd (.tmp 24) (.tmp 26) 23 Tryd.underlying23 hi hz0 hz1 hz2 Cr.byte_cells own4 hf4 (by unfold maxLen; omega) (by omega) hB4.size rfl rfl rfl rfl ?_)
      intro v1 w5 L5
      have hB5 : Below w3.heap.size w3 w5 := L5.below hB4 hB4.size (fun g hg => by simp [Value.ownBlock] at hg; omega)
      have n5 : ∀ g, v1.ownBlock = some g → w3.heap.size ≤ g := L5.new (fun g hg => by simp [Value.ownBlock] at hg; omega) hB4.size
      have own5 := L5.1
      rw [Nat.zero_add, List.nil_append] at own5
      obtain ⟨A5, c5, rfl, hc5', _⟩ := own_rd own5
      have q1 : w5.cell? ⟨w.heap.size, 1, none⟩ = some (.int .i64 k) := (hB5.cell (p := ⟨w.heap.size, 1, none⟩) HB3.out.2.2.lt).trans q1
      have hs5 : Rd w5 w3.heap.size .u8 (some ⟨b, off + 5, none⟩) 5 (Nu.longOf v) := by
        refine Rd.below (w := w3) ?_ hB5
        exact ⟨hs4.1, fun h => by
          obtain ⟨b', o', e, hlt, hcc⟩ := hs4.2 h
          exact ⟨b', o', e, hlt, fun i hi => (hB4.cell (p := ⟨b', o' + i, none⟩) hlt).symm.trans (hcc i hi)⟩⟩
      have H5 := Lib.hid (⟨hB5, n5⟩ : _ ∧ _)
      clear L5 hf4 hs4 own4 grow4 hB4 hr4 n5 hB5 q0 q2
      go_wp2_with (at_builtin; refine hold ?_)
      refine unhold (Cr.wpList_append_rd (.tmp 28) (.tmp 32) 23 Tryd.underlying23 hi hz0 hz1 hz2 Cr.byte_cells (own5.alloc _) (Cr.Rd.made w5 .u8 5 [k % 256] rfl) (by unfold maxLen; simp) (by simp) (by have := H5.out.1.size; simp; omega) rfl rfl rfl rfl ?_)
      intro v2 w6 L6
      have hB6 : Below w3.heap.size w3 w6 := L6.below (H5.out.1.alloc H5.out.1.size _) (by have := H5.out.1.size; simp; omega) H5.out.2
      have n6 : ∀ g, v2.ownBlock = some g → w3.heap.size ≤ g := L6.new H5.out.2 (by have := H5.out.1.size; simp; omega)
      have own6 := L6.1
      obtain ⟨l6, hl6⟩ : ∃ l6 : List Int, l6 = Nu.longOf t ++ [k % 256] := ⟨_, rfl⟩
      have e6 : (Nu.longOf t).map (Value.int .u8) ++ [k % 256].map (Value.int .u8) = l6.map (Value.int .u8) := by rw [hl6, List.map_append]
      rw [e6] at own6
      obtain ⟨A6, c6, rfl, hc6', _⟩ := own_rd own6
      have hs6 : Rd w6 w3.heap.size .u8 (some ⟨b, off + 5, none⟩) 5 (Nu.longOf v) := by
        refine Rd.below (w := w3) ?_ hB6
        exact ⟨hs5.1, fun h => by
          obtain ⟨b', o', e, hlt, hcc⟩ := hs5.2 h
          exact ⟨b', o', e, hlt, fun i hi => (H5.out.1.cell (p := ⟨b', o' + i, none⟩) hlt).symm.trans (hcc i hi)⟩⟩
      have H6 := Lib.hid (⟨hB6, n6, hl6⟩ : _ ∧ _ ∧ _)
      clear L6 hs5 own5 n6 hB6 e6 hl6
      go_wp2_with (at_builtin; refine hold ?_)
      refine unhold (Cr.wpList_append_rd (.tmp 34) (.tmp 36) 23 Tryd.underlying23 hi hz0 hz1 hz2 Cr.byte_cells own6 hs6 (by unfold maxLen; simp) (by simp) H6.out.1.size rfl rfl rfl rfl ?_)
      intro v3 w7 L7
      have hB7 : Below w3.heap.size w3 w7 := L7.below H6.out.1 H6.out.1.size H6.out.2.1
      have own7 := L7.1
      have e7 : l6.map (Value.int .u8) ++ (Nu.longOf v).map (Value.int .u8) = (textL ⟨t, k, v⟩).map (Value.int .u8) := by rw [← List.map_append, H6.out.2.2, List.append_assoc]; rfl
      rw [e7] at own7
      obtain ⟨A7, c7, rfl, hc7', hr7⟩ := own_rd own7
      have H7 := Lib.hid hB7
      clear L7 own7 own6 hs6 e7 hB7
      go_wp2_with fail
      refine (Cr.put_c A7 11 c7 (textL ⟨t, k, v⟩) w7 (HT3.out.on H7.out) hr7 (textL_byt _) hc7' (by omega)).mono ?_
      rintro e w8 ⟨⟨x, A8, c8, hx, rfl, hc8, hr8⟩, hb8⟩
      obtain rfl : x = Cr.sumI (textL ⟨t, k, v⟩) := hx.sum
      have H8 := Lib.hid (⟨hr8, hc8, HB3.out.1.trans ((H7.out.mono HB3.out.1.size).trans (hb8.mono (by have := H7.out.size; have := HB3.out.1.size; omega)))⟩ : _ ∧ _ ∧ _)
      clear hx hr8 hc8 hb8 hr7 hc7'
      go_wp2_with fail
      go_ret2
      exact ⟨.inl ⟨HR.out, A8, c8, rfl, H8.out.2.1, H8.out.1⟩, H8.out.2.2⟩
    · have e1 := rightB_not.2 hR
      have HR := Lib.hid hR
      clear hR
      go_wp2_with fail
      refine (right_any ⟨t, k, v⟩ _).mono ?_
      rintro e w3 ⟨rfl, hb3⟩
      rw [e1]
      have HB := Lib.hid (HF.out.2.1.trans (hb3.mono HF.out.2.1.size))
      clear e1 hb3
      go_wp2_with fail
      go_ret2
      exact ⟨.inr ⟨HR.out, rfl⟩, HB.out⟩
  · refine (long_no2 _ 2 t v _ hr1 hn).mono ?_
    rintro e w2 ⟨⟨vv, rfl⟩, hb2⟩
    have HF := Lib.hid (⟨hn, hB1.trans (hb2.mono hB1.size)⟩ : _ ∧ _)
    clear hb2 hn bx1 hB1 hr1 k0 k1 k2 bx hwx hBx hT
    go_wp2_with fail
    go_ret2
    exact ⟨.inr ⟨fun h => HF.out.1 ⟨by have := h.1; dsimp only at this; omega, h.2.2.1⟩, rfl⟩, HF.out.2⟩

end Go.Proofs.YtlblfpfdebmcgaaDoor
