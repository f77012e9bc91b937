/-
  Package one: its contracts, over whatever sixteen rows.
-/
import Derived.Test.YtcpdjhkpmaamdaaGreatOneP
import Derived.Test.YtcpdjhkpmaamdaaGreatNumR
import Derived.Test.YtcpdjhkpmaamdaaGreatCrcM
import Derived.Test.YtcpdjhkpmaamdaaGreatRow
import Derived.Deep.DeepCutAuto
import Derived.Test.YtcpdjhkpmaamdaaGreatScope
import Derived.Test.YtcpdjhkpmaamdaaGreatRangeW
import Derived.Test.YtcpdjhkpmaamdaaGreatMarks
namespace Go.Proofs.YtcpdjhkpmaamdaaGreat
open Go.RowKit
set_option linter.unusedVariables false

/-- Bytes and an error told: the bytes are a row of the call's own. -/
def Tel (w : World) (R : List Int × Int) (e : Ending) (w' : World) : Prop :=
  (∃ A c, e = .returned (.tuple #[.slice A R.1.length c, .int .i64 R.2]) ∧ R.1.length ≤ c ∧ w'.ownsRow w.heap.size 5 1 (.slice A R.1.length c) R.1.length (R.1.map (Value.int .u8))) ∧ Below w.heap.size w w'
theorem Tel.none_ {w w' : World} {R : List Int × Int} (h : R = ([], 2)) (hB : Below w.heap.size w w') : Tel w R (.returned (.tuple #[.slice none 0 0, .int .i64 2])) w' := by
  subst h
  exact ⟨⟨none, 0, rfl, Nat.le_refl _, World.ownsRow_nil _ _ _ _⟩, hB⟩
theorem Tel.some_ {w w' : World} {R : List Int × Int} {L : List Int} {v : Value} {n : Nat} (h : R = (L, 0)) (hn : L.length = n) (hr : w'.ownsRow w.heap.size 5 1 v n (L.map (Value.int .u8))) (hB : Below w.heap.size w w') : Tel w R (.returned (.tuple #[v, .int .i64 0])) w' := by
  subst h hn
  obtain ⟨A, c, rfl, hc, _⟩ := own_rd hr
  exact ⟨⟨A, c, rfl, hc, hr⟩, hB⟩

/-- The row that a literal makes. -/
theorem own_lit (w : World) {base g : Nat} {e : TypeId} (l : List Value) (hg : g = w.heap.size) (hb : base ≤ w.heap.size) (hm : l.length ≤ maxLen) :
    (w.alloc (.cells l.toArray e)).ownsRow base e 1 (.slice (some ⟨g, 0, none⟩) l.length l.length) l.length l := by
  subst hg
  exact ⟨by simp, .inr ⟨w.heap.size, l.length, l.toArray, rfl, hb, World.alloc_heap_new w _, Nat.le_refl _, hm, by simp, by simp⟩⟩
theorem own_weak {w : World} {base b' : Nat} {e : TypeId} {size : Nat} {v : Value} {n : Nat} {xs : List Value} (h : w.ownsRow base e size v n xs) (hb : b' ≤ base) : w.ownsRow b' e size v n xs :=
  ⟨h.1, h.2.imp id fun ⟨g, cap, cur, h1, h2, h3⟩ => ⟨g, cap, cur, h1, Nat.le_trans hb h2, h3⟩⟩
theorem num_one (n : Int) : Nu.allNum [n] = decide (0 ≤ n ∧ n ≤ 1073741824) := by
  simp [Nu.allNum, Nu.isNum]
theorem longs_one (n : Int) : Nu.longsOf [n] = Nu.longOf n := by simp [Nu.longsOf]

section
variable (A : Option Addr) (c : Nat) (n : Int) (w : World) (hr : Rd w w.heap.size .i64 A 1 [n])
include hr
theorem long_yes1 (hn : 0 ≤ n ∧ n ≤ 1073741824) : Calls Tryz.prog 117 #[.slice A 1 c] w fun e w' => (∃ A' c', e = .returned (.tuple #[.slice A' 5 c', .int .i64 0]) ∧ 5 ≤ c' ∧ Rd w' w'.heap.size .u8 A' 5 (Nu.longOf n)) ∧ Below w.heap.size w w' := by
  refine (callsIn_wide.1 (Nu.long_in A 1 c [n] w hr (by omega))).mono ?_
  rintro e w' ⟨⟨v, rfl, hg⟩, hb⟩
  have ha : Nu.allNum [n] = true := by rw [num_one]; simpa using hn
  rw [ha, if_pos rfl, longs_one] at hg
  obtain ⟨A', c', rfl, hc, hrd⟩ := hg
  rw [Nu.longOf_length] at hc hrd ⊢
  exact ⟨⟨A', c', by rw [ha]; rfl, hc, hrd⟩, hb⟩
theorem long_no1 (hn : ¬ (0 ≤ n ∧ n ≤ 1073741824)) : Calls Tryz.prog 117 #[.slice A 1 c] w fun e w' => (∃ v, e = .returned (.tuple #[v, .int .i64 2])) ∧ Below w.heap.size w w' := by
  refine (callsIn_wide.1 (Nu.long_in A 1 c [n] w hr (by omega))).mono ?_
  rintro e w' ⟨⟨v, rfl, hg⟩, hb⟩
  have ha : Nu.allNum [n] = false := by rw [num_one]; simpa using hn
  exact ⟨⟨v, by rw [ha]; rfl⟩, hb⟩
end

theorem beq_txt {l m : List Int} (hl : Byt l) (hm : Byt m) : ((Cr.txt l).toList == (Cr.txt m).toList) = Cr.eqB l m := Cr.txt_beq hl hm
theorem size_nums (n : Int) : ∃ m q : Int, (∀ ts t w, (Builtin.max_ ts t #[.int .i64 n, .int .i64 0]).run Tryz.prog w = .ok (.int .i64 m) w) ∧ (∀ ts t w, (Builtin.min_ ts t #[.int .i64 m, .int .i64 1073741824]).run Tryz.prog w = .ok (.int .i64 q) w) ∧ 0 ≤ q ∧ q ≤ 1073741824 ∧ 6 + 15 * q = sizeP n := by
  obtain ⟨m, hm, m1, m2, m3⟩ := Cr.max2_run (P := Tryz.prog) n 0
  obtain ⟨q, hq, q1, q2, q3⟩ := Cr.min2_run (P := Tryz.prog) m 1073741824
  refine ⟨m, q, hm, hq, by omega, by omega, ?_⟩
  unfold sizeP
  omega
set_option maxRecDepth 100000 in
set_option maxHeartbeats 1000000 in
theorem head_any (n : Int) (w : World) : Calls Tryz.prog 113 #[.int .i64 n] w (Tel w (headP n)) := by
  obtain ⟨i0, hi, hz0, hz1, hz2⟩ := info_parts Cr.info_u8
  have hr1 : Rd (w.alloc (.cells #[.int .i64 n] 3)) (w.alloc (.cells #[.int .i64 n] 3)).heap.size .i64 (some ⟨w.heap.size, 0, none⟩) 1 [n] := Cr.Rd.made w .i64 3 [n] rfl
  have hB1 : Below w.heap.size w (w.alloc (.cells #[.int .i64 n] 3)) := (Below.refl _ w).alloc (Nat.le_refl _) _
  by_cases hn : 0 ≤ n ∧ n ≤ 1073741824
  · by_cases h0 : n = 0
    · have H := Lib.hid (headP_no (f := n) (fun h => by have := h.1; omega))
      subst h0
      go_enter Tryz.func113, Tryz.ntmps113
      go_wp2_with fail
      refine (long_yes1 _ 1 0 _ hr1 hn).mono ?_
      rintro e w1 ⟨⟨A, c, rfl, hc, hr⟩, hb⟩
      have HB := Lib.hid (hB1.trans (hb.mono hB1.size))
      clear hr1 hB1 hb hr
      go_wp2_with fail
      go_ret2
      exact Tel.none_ H.out HB.out
    · have H := Lib.hid (headP_yes (f := n) ⟨by omega, hn.2⟩)
      go_enter Tryz.func113, Tryz.ntmps113
      go_wp2_with fail
      refine (long_yes1 _ 1 n _ hr1 hn).mono ?_
      rintro e w1 ⟨⟨A, c, rfl, hc, hr⟩, hb⟩
      have hB := hB1.trans (hb.mono hB1.size)
      have hsz := hB.size
      clear hr1 hB1 hb
      go_wp2_with (at_builtin; refine hold ?_)
      refine unhold (Cr.wpList_append_rd (.tmp 18) (.tmp 19) 23 Tryz.underlying23 hi hz0 hz1 hz2 Cr.byte_cells (own_lit w1 (base := w1.heap.size) (e := 5) [.int .u8 1] rfl (Nat.le_refl _) (by decide)) (hr.below ((Below.refl _ w1).alloc (Nat.le_refl _) _)) (by unfold maxLen; simp) (by simp) (by simp) rfl rfl rfl rfl ?_)
      intro v1 w5 L3
      have hb5 : Below w1.heap.size w1 w5 := L3.below ((Below.refl _ w1).alloc (Nat.le_refl _) _) (by simp) (fun g hg => by simp [Value.ownBlock] at hg; omega)
      have own := L3.1
      have e1 : [Value.int .u8 1] ++ (Nu.longOf n).map (Value.int .u8) = (headL n).map (Value.int .u8) := rfl
      rw [e1] at own
      have HF := Lib.hid (⟨own_weak own hB.size, hB.trans (hb5.mono hsz)⟩ : _ ∧ _)
      clear L3 own e1 hb5 hB
      go_wp2_with fail
      go_ret2
      exact Tel.some_ H.out (headL_length n) HF.out.1 HF.out.2
  · have H := Lib.hid (headP_no (f := n) (fun h => by have := h.1; have := h.2; omega))
    go_enter Tryz.func113, Tryz.ntmps113
    go_wp2_with fail
    refine (long_no1 _ 1 n _ hr1 hn).mono ?_
    rintro e w1 ⟨⟨v, rfl⟩, hb⟩
    have HB := Lib.hid (hB1.trans (hb.mono hB1.size))
    clear hr1 hB1 hb
    go_wp2_with fail
    go_ret2
    exact Tel.none_ H.out HB.out

end Go.Proofs.YtcpdjhkpmaamdaaGreat

namespace Go.Proofs.YtcpdjhkpmaamdaaGreat
open Go.RowKit
set_option linter.unusedVariables false

/-! ### Records -/
theorem num_two (n m : Int) : Nu.allNum [n, m] = decide ((0 ≤ n ∧ n ≤ 1073741824) ∧ (0 ≤ m ∧ m ≤ 1073741824)) := by
  rw [Bool.eq_iff_iff]
  simp [Nu.allNum, Nu.isNum]
theorem longs_two (n m : Int) : Nu.longsOf [n, m] = Nu.longOf n ++ Nu.longOf m := by simp [Nu.longsOf]
section
variable (A : Option Addr) (c : Nat) (n m : Int) (w : World) (hr : Rd w w.heap.size .i64 A 2 [n, m])
include hr
theorem long_yes2 (hn : (0 ≤ n ∧ n ≤ 1073741824) ∧ (0 ≤ m ∧ m ≤ 1073741824)) : Calls Tryz.prog 117 #[.slice A 2 c] w fun e w' => (∃ A' c', e = .returned (.tuple #[.slice A' 10 c', .int .i64 0]) ∧ 10 ≤ c' ∧ Rd w' w'.heap.size .u8 A' 10 (Nu.longOf n ++ Nu.longOf m)) ∧ Below w.heap.size w w' := by
  refine (callsIn_wide.1 (Nu.long_in A 2 c [n, m] w hr (by omega))).mono ?_
  rintro e w' ⟨⟨v, rfl, hg⟩, hb⟩
  have ha : Nu.allNum [n, m] = true := by rw [num_two]; simpa using hn
  rw [ha, if_pos rfl, longs_two] at hg
  obtain ⟨A', c', rfl, hc, hrd⟩ := hg
  have e10 : (Nu.longOf n ++ Nu.longOf m).length = 10 := by rw [List.length_append, Nu.longOf_length, Nu.longOf_length]
  rw [e10] at hc hrd ⊢
  exact ⟨⟨A', c', by rw [ha]; rfl, hc, hrd⟩, hb⟩
theorem long_no2 (hn : ¬ ((0 ≤ n ∧ n ≤ 1073741824) ∧ (0 ≤ m ∧ m ≤ 1073741824))) : Calls Tryz.prog 117 #[.slice A 2 c] w fun e w' => (∃ v, e = .returned (.tuple #[v, .int .i64 2])) ∧ Below w.heap.size w w' := by
  refine (callsIn_wide.1 (Nu.long_in A 2 c [n, m] w hr (by omega))).mono ?_
  rintro e w' ⟨⟨v, rfl, hg⟩, hb⟩
  have ha : Nu.allNum [n, m] = false := by rw [num_two]; simpa using hn
  exact ⟨⟨v, by rw [ha]; rfl⟩, hb⟩
end
/-- One record told, or an error. -/
def PutOne [Inhabited Cr.Rows16] (x : EnP) (e : Ending) (w' : World) : Prop :=
  (RightP x ∧ ∃ A c, e = .returned (.tuple #[.slice A 15 c, .int .i64 0]) ∧ 15 ≤ c ∧ Rd w' w'.heap.size .u8 A 15 (recL x)) ∨ (¬ RightP x ∧ e = .returned (.tuple #[.slice none 0 0, .int .i64 2]))

set_option maxRecDepth 100000 in
set_option maxHeartbeats 2000000 in
theorem put1_any [Inhabited Cr.Rows16] (x : EnP) (w : World) (hT : Cr.Tab w) : Calls Tryz.prog 119 #[x.v] w fun e w' => PutOne x e w' ∧ Below w.heap.size w w' := by
  obtain ⟨i0, hi, hz0, hz1, hz2⟩ := info_parts Cr.info_u8
  obtain ⟨t, k, v⟩ := x
  unfold EnP.v
  obtain ⟨wx, hwx⟩ : ∃ wx, wx = w.alloc (.cells #[.int .i64 t, .int .i64 k, .int .i64 v] 41) := ⟨_, rfl⟩
  have bx : BoxE wx w.heap.size ⟨t, k, v⟩ := by rw [hwx]; exact BoxE.new w ⟨t, k, v⟩
  have hBx : Below w.heap.size w wx := by rw [hwx]; exact (Below.refl _ w).alloc (Nat.le_refl _) _
  obtain ⟨k0, k1, k2⟩ := bx.cells
  have hr1 : Rd (wx.alloc (.cells #[.int .i64 t, .int .i64 v] 3)) (wx.alloc (.cells #[.int .i64 t, .int .i64 v] 3)).heap.size .i64 (some ⟨w.heap.size + 1, 0, none⟩) 2 [t, v] := Cr.Rd.made wx .i64 3 [t, v] (by rw [hwx]; simp)
  have hB1 : Below w.heap.size w (wx.alloc (.cells #[.int .i64 t, .int .i64 v] 3)) := hBx.alloc hBx.size _
  have bx1 : BoxE (wx.alloc (.cells #[.int .i64 t, .int .i64 v] 3)) w.heap.size ⟨t, k, v⟩ := bx.below ((Below.refl _ wx).alloc (Nat.le_refl _) _)
  go_enter Tryz.func119, Tryz.ntmps119
  go_wp2_with fail
  rw [← hwx]
  by_cases hn : (0 ≤ t ∧ t ≤ 1073741824) ∧ (0 ≤ v ∧ v ≤ 1073741824)
  · refine (long_yes2 _ 2 t v _ hr1 hn).mono ?_
    rintro e w2 ⟨⟨A, c, rfl, hc, hrd⟩, hb2⟩
    have bx2 := bx1.below hb2
    have hB2 := hB1.trans (hb2.mono hB1.size)
    obtain ⟨k0', k1', k2'⟩ := bx2.cells
    have HT := Lib.hid (hT.on hB2)
    have HF := Lib.hid (⟨hn, hB2, hrd, bx2⟩ : _ ∧ _ ∧ _ ∧ _)
    clear hn hrd bx2 hB2 hb2 bx1 hB1 hr1 k0 k1 k2 bx hwx hBx hT
    by_cases hR : RightP ⟨t, k, v⟩
    · have e1 := rightB_iff.2 hR
      have HR := Lib.hid hR
      clear hR
      go_wp2_with fail
      refine (right_any ⟨t, k, v⟩ _).mono ?_
      rintro e w3 ⟨rfl, hb3⟩
      rw [e1]
      clear e1
      have hB3 := HF.out.2.1.trans (hb3.mono HF.out.2.1.size)
      have hr3 := HF.out.2.2.1.on hb3 hb3.size
      have bx3 := HF.out.2.2.2.below hb3
      obtain ⟨b, off, rfl, hbl, hcell⟩ := hr3.at_ (by omega)
      obtain ⟨q0, q1, q2⟩ := bx3.cells
      have HT3 := Lib.hid (HT.out.on hb3)
      have HB3 := Lib.hid (⟨hB3, hr3, bx3⟩ : _ ∧ _ ∧ _)
      clear hb3 hB3 hr3 bx3 hcell hbl k0' k1' k2'
      go_wp2_with (at_make; refine hold ?_)
      refine unhold (wpList_make_own _ rfl _ _ 23 rfl w3.heap.size 5 i0 (.int .u8 0) 1 Tryz.underlying23 hi hz0 hz1 _ _ _ 11 rfl rfl (by omega) (by rw [hz2]; omega) (by unfold maxLen; omega) (Nat.le_refl _) ?_)
      intro w4 own4 grow4
      have hB4 : Below w3.heap.size w3 w4 := (Below.refl _ w3).grown grow4 (Nat.le_refl _) (fun k e => by cases e)
      have hr4 := HB3.out.2.1.below hB4
      have hf4 : Rd w4 w3.heap.size .u8 (some ⟨b, off, none⟩) 5 (Nu.longOf t) := by
        have h1 := hr4.first (m := 5) (by omega)
        rwa [List.take_append_of_le_length (by rw [Nu.longOf_length]; omega), List.take_of_length_le (by rw [Nu.longOf_length]; omega)] at h1
      have hc5 : ¬ c = 5 := by omega
      have hs4 : Rd w4 w3.heap.size .u8 (some ⟨b, off + 5, none⟩) 5 (Nu.longOf v) := by
        have h1 := Nu.Rd.cut_at (m := 5) hr4 (by omega)
        have e5 : (Nu.longOf t ++ Nu.longOf v).drop 5 = Nu.longOf v := by rw [← Nu.longOf_length t]; exact List.drop_left
        rw [e5] at h1
        exact h1
      go_wp2_with (at_builtin; refine hold ?_)
      refine unhold (Cr.wpList_append_rd (.tmp 24) (.tmp 26) 23 Tryz.underlying23 hi hz0 hz1 hz2 Cr.byte_cells own4 hf4 (by unfold maxLen; omega) (by omega) hB4.size rfl rfl rfl rfl ?_)
      intro v1 w5 L5
      have hB5 : Below w3.heap.size w3 w5 := L5.below hB4 hB4.size (fun g hg => by simp [Value.ownBlock] at hg; omega)
      have n5 : ∀ g, v1.ownBlock = some g → w3.heap.size ≤ g := L5.new (fun g hg => by simp [Value.ownBlock] at hg; omega) hB4.size
      have own5 := L5.1
      rw [Nat.zero_add, List.nil_append] at own5
      obtain ⟨A5, c5, rfl, hc5', _⟩ := own_rd own5
      have q1 : w5.cell? ⟨w.heap.size, 1, none⟩ = some (.int .i64 k) := (hB5.cell (p := ⟨w.heap.size, 1, none⟩) HB3.out.2.2.lt).trans q1
      have hs5 : Rd w5 w3.heap.size .u8 (some ⟨b, off + 5, none⟩) 5 (Nu.longOf v) := by
        refine Rd.below (w := w3) ?_ hB5
        exact ⟨hs4.1, fun h => by
          obtain ⟨b', o', e, hlt, hcc⟩ := hs4.2 h
          exact ⟨b', o', e, hlt, fun i hi => (hB4.cell (p := ⟨b', o' + i, none⟩) hlt).symm.trans (hcc i hi)⟩⟩
      have H5 := Lib.hid (⟨hB5, n5⟩ : _ ∧ _)
      clear L5 hf4 hs4 own4 grow4 hB4 hr4 n5 hB5 q0 q2
      go_wp2_with (at_builtin; refine hold ?_)
      refine unhold (Cr.wpList_append_rd (.tmp 28) (.tmp 32) 23 Tryz.underlying23 hi hz0 hz1 hz2 Cr.byte_cells (own5.alloc _) (Cr.Rd.made w5 .u8 5 [k % 256] rfl) (by unfold maxLen; simp) (by simp) (by have := H5.out.1.size; simp; omega) rfl rfl rfl rfl ?_)
      intro v2 w6 L6
      have hB6 : Below w3.heap.size w3 w6 := L6.below (H5.out.1.alloc H5.out.1.size _) (by have := H5.out.1.size; simp; omega) H5.out.2
      have n6 : ∀ g, v2.ownBlock = some g → w3.heap.size ≤ g := L6.new H5.out.2 (by have := H5.out.1.size; simp; omega)
      have own6 := L6.1
      obtain ⟨l6, hl6⟩ : ∃ l6 : List Int, l6 = Nu.longOf t ++ [k % 256] := ⟨_, rfl⟩
      have e6 : (Nu.longOf t).map (Value.int .u8) ++ [k % 256].map (Value.int .u8) = l6.map (Value.int .u8) := by rw [hl6, List.map_append]
      rw [e6] at own6
      obtain ⟨A6, c6, rfl, hc6', _⟩ := own_rd own6
      have hs6 : Rd w6 w3.heap.size .u8 (some ⟨b, off + 5, none⟩) 5 (Nu.longOf v) := by
        refine Rd.below (w := w3) ?_ hB6
        exact ⟨hs5.1, fun h => by
          obtain ⟨b', o', e, hlt, hcc⟩ := hs5.2 h
          exact ⟨b', o', e, hlt, fun i hi => (H5.out.1.cell (p := ⟨b', o' + i, none⟩) hlt).symm.trans (hcc i hi)⟩⟩
      have H6 := Lib.hid (⟨hB6, n6, hl6⟩ : _ ∧ _ ∧ _)
      clear L6 hs5 own5 n6 hB6 e6 hl6
      go_wp2_with (at_builtin; refine hold ?_)
      refine unhold (Cr.wpList_append_rd (.tmp 34) (.tmp 36) 23 Tryz.underlying23 hi hz0 hz1 hz2 Cr.byte_cells own6 hs6 (by unfold maxLen; simp) (by simp) H6.out.1.size rfl rfl rfl rfl ?_)
      intro v3 w7 L7
      have hB7 : Below w3.heap.size w3 w7 := L7.below H6.out.1 H6.out.1.size H6.out.2.1
      have own7 := L7.1
      have e7 : l6.map (Value.int .u8) ++ (Nu.longOf v).map (Value.int .u8) = (textL ⟨t, k, v⟩).map (Value.int .u8) := by rw [← List.map_append, H6.out.2.2, List.append_assoc]; rfl
      rw [e7] at own7
      obtain ⟨A7, c7, rfl, hc7', hr7⟩ := own_rd own7
      have H7 := Lib.hid hB7
      clear L7 own7 own6 hs6 e7 hB7
      go_wp2_with fail
      refine (Cr.put_c A7 11 c7 (textL ⟨t, k, v⟩) w7 (HT3.out.on H7.out) hr7 (textL_byt _) hc7' (by omega)).mono ?_
      rintro e w8 ⟨⟨x, A8, c8, hx, rfl, hc8, hr8⟩, hb8⟩
      obtain rfl : x = Cr.sumI (textL ⟨t, k, v⟩) := hx.sum
      have H8 := Lib.hid (⟨hr8, hc8, HB3.out.1.trans ((H7.out.mono HB3.out.1.size).trans (hb8.mono (by have := H7.out.size; have := HB3.out.1.size; omega)))⟩ : _ ∧ _ ∧ _)
      clear hx hr8 hc8 hb8 hr7 hc7'
      go_wp2_with fail
      go_ret2
      exact ⟨.inl ⟨HR.out, A8, c8, rfl, H8.out.2.1, H8.out.1⟩, H8.out.2.2⟩
    · have e1 := rightB_not.2 hR
      have HR := Lib.hid hR
      clear hR
      go_wp2_with fail
      refine (right_any ⟨t, k, v⟩ _).mono ?_
      rintro e w3 ⟨rfl, hb3⟩
      rw [e1]
      have HB := Lib.hid (HF.out.2.1.trans (hb3.mono HF.out.2.1.size))
      clear e1 hb3
      go_wp2_with fail
      go_ret2
      exact ⟨.inr ⟨HR.out, rfl⟩, HB.out⟩
  · refine (long_no2 _ 2 t v _ hr1 hn).mono ?_
    rintro e w2 ⟨⟨vv, rfl⟩, hb2⟩
    have HF := Lib.hid (⟨hn, hB1.trans (hb2.mono hB1.size)⟩ : _ ∧ _)
    clear hb2 hn bx1 hB1 hr1 k0 k1 k2 bx hwx hBx hT
    go_wp2_with fail
    go_ret2
    exact ⟨.inr ⟨fun h => HF.out.1 ⟨by have := h.1; dsimp only at this; omega, h.2.2.1⟩, rfl⟩, HF.out.2⟩

end Go.Proofs.YtcpdjhkpmaamdaaGreat

namespace Go.Proofs.YtcpdjhkpmaamdaaGreat
open Go.RowKit
set_option linter.unusedVariables false

theorem own_keep {w W : World} {base size n : Nat} {e : TypeId} {v : Value} {xs : List Value} (h : w.ownsRow base e size v n xs) (hb : Below w.heap.size w W) : W.ownsRow base e size v n xs :=
  h.kept (row := none) ⟨hb.os, hb.tape, hb.output, hb.size, fun k hk _ => hb.block k hk⟩ (by
    rcases h.2 with ⟨rfl, _⟩ | ⟨g, cap, cur, rfl, _⟩
    · exact .inl rfl
    · exact .inr (by simp [Value.ownBlock]))

/-- A row lies on where another block has turned. -/
theorem rd_over {k : IntKind} {R : List Int} {q c B : Nat} {A : Option Addr} {w w' : World} {row : Option Nat} (h : Rd w B k A q R) (hB : B ≤ w.heap.size) (hg : w.grownBy w' row) (hne : ∀ g, (Value.slice A q c).ownBlock = some g → row ≠ some g) : Rd w' w'.heap.size k A q R := by
  refine ⟨h.1, fun hq => ?_⟩
  obtain ⟨b, off, rfl, hb, hc⟩ := h.2 hq
  have h1 : w'.heap[b]? = w.heap[b]? := hg.block b (by omega) (fun e => hne b rfl e.symm)
  have hsz := hg.size
  exact ⟨b, off, rfl, by omega, fun i hi => (World.cell?_of_block (a := ⟨b, off + i, none⟩) h1).trans (hc i hi)⟩

end Go.Proofs.YtcpdjhkpmaamdaaGreat

namespace Go.Proofs.YtcpdjhkpmaamdaaGreat
open Go.RowKit
set_option linter.unusedVariables false

theorem all_take {l : List EnP} {n : Nat} (h : l.length ≤ n) (ha : AllR (l.take n)) : AllR l := by rwa [List.take_of_length_le h] at ha

end Go.Proofs.YtcpdjhkpmaamdaaGreat

namespace Go.Proofs.YtcpdjhkpmaamdaaGreat
open Go.RowKit
set_option linter.unusedVariables false

theorem nu_byt {l : List Int} (h : Byt l) : Nu.Byt l := h
theorem longP_err {l : List Int} (h : (Nu.longP l).2.2 ≠ 0) : (Nu.longP l).1 = 0 := by
  unfold Nu.longP at h ⊢
  split
  · rfl
  · split
    · rfl
    · rename_i h1 h2; rw [if_neg h1, if_neg h2] at h; exact absurd rfl h
theorem longP_pos {l : List Int} (hb : Byt l) : 0 ≤ (Nu.longP l).1 := by
  unfold Nu.longP
  split
  · exact Int.le_refl 0
  · split
    · exact Int.le_refl 0
    · exact (Nu.sumL_bound (nu_byt hb) 5 (by omega)).1
/-- num.TakeLong of at least five bytes, its number and its error alone. -/
theorem tlong_any (A : Option Addr) (n c : Nat) (l : List Int) (w : World) {x e : Int} (hr : Rd w w.heap.size .u8 A n l) (hb : Byt l) (hnc : n ≤ c) (hn : n ≤ 1048576) (hx : (Nu.longP l).1 = x) (he : (Nu.longP l).2.2 = e) :
    Calls Tryz.prog 120 #[.slice A n c] w fun r w' => (∃ A' n' c', r = .returned (.tuple #[.int .i64 x, .slice A' n' c', .int .i64 e])) ∧ Below w.heap.size w w' := by
  subst hx he
  refine (Nu.long_any A n c l w hr (nu_byt hb) hnc (by omega)).mono ?_
  rintro r w' ⟨⟨v, rfl, A', c', rfl, _⟩, hb⟩
  exact ⟨⟨A', _, c', rfl⟩, hb⟩

/-- What headOf answers. -/
def headV (l : List Int) : Value := .tuple #[.int .i64 ((headO l).getD 0), .bool (headO l).isSome]
set_option maxRecDepth 100000 in
set_option maxHeartbeats 1000000 in
theorem headOf_any (A : Option Addr) (n c : Nat) (l : List Int) (w : World) (hr : Rd w w.heap.size .u8 A n l) (hb : Byt l) (hnc : n ≤ c) :
    Calls Tryz.prog 115 #[.slice A n c] w fun e w' => e = .returned (headV l) ∧ Below w.heap.size w w' := by
  have Hl := Lib.hid hr.1
  unfold headV
  by_cases h6 : n < 6
  · have H := Lib.hid (headO_short (b := l) (by rw [Hl.out]; exact h6))
    go_enter Tryz.func115, Tryz.ntmps115
    go_wp2_with fail
    go_ret2
    exact ⟨by rw [H.out]; rfl, Below.refl _ _⟩
  · obtain ⟨b, off, rfl, hbl, hcell⟩ := hr.at_ (by omega)
    have hc0 := hcell 0 (by omega)
    rw [Nat.add_zero] at hc0
    by_cases h1 : l[0]?.getD 0 = 1
    · have hr1 : Rd w w.heap.size .u8 (some ⟨b, off + 1, none⟩) 5 ((l.take 6).drop 1) := by
        have h := Nu.Rd.cut_at (m := 1) (hr.first (m := 6) (by omega)) (by omega)
        exact h
      obtain ⟨x, hx⟩ : ∃ x, (Nu.longP ((l.take 6).drop 1)).1 = x := ⟨_, rfl⟩
      obtain ⟨e, he⟩ : ∃ e, (Nu.longP ((l.take 6).drop 1)).2.2 = e := ⟨_, rfl⟩
      have hbt : Byt ((l.take 6).drop 1) := (hb.take 6).drop 1
      have hx0 := longP_pos hbt
      rw [hx] at hx0
      by_cases he0 : e = 0
      · subst he0
        by_cases hp : 0 < x
        · have H : Hid (headO l = some x) := by
            unfold headO
            rw [if_pos ⟨by rw [Hl.out]; omega, h1, he, by rw [hx]; exact hp⟩, hx]
            exact Lib.hid rfl
          have Hx := Lib.hid (⟨hr1, hbt, hx, he⟩ : _ ∧ _ ∧ _ ∧ _)
          clear hr1 hbt hx he hcell hr
          go_enter Tryz.func115, Tryz.ntmps115
          go_wp2_with fail
          refine (tlong_any _ 5 _ _ w Hx.out.1 Hx.out.2.1 (by omega) (by omega) Hx.out.2.2.1 Hx.out.2.2.2).mono ?_
          rintro r w1 ⟨⟨A', n', c', rfl⟩, hb1⟩
          go_wp2_with fail
          go_ret2
          exact ⟨by rw [H.out]; rfl, hb1⟩
        · have H : Hid (headO l = none) := by
            unfold headO
            rw [if_neg (fun h => by rw [hx] at h; exact hp h.2.2.2)]
            exact Lib.hid rfl
          have h00 : x = 0 := by omega
          subst h00
          have Hx := Lib.hid (⟨hr1, hbt, hx, he⟩ : _ ∧ _ ∧ _ ∧ _)
          clear hr1 hbt hx he hcell hr
          go_enter Tryz.func115, Tryz.ntmps115
          go_wp2_with fail
          refine (tlong_any _ 5 _ _ w Hx.out.1 Hx.out.2.1 (by omega) (by omega) Hx.out.2.2.1 Hx.out.2.2.2).mono ?_
          rintro r w1 ⟨⟨A', n', c', rfl⟩, hb1⟩
          go_wp2_with fail
          go_ret2
          exact ⟨by rw [H.out]; rfl, hb1⟩
      · have H : Hid (headO l = none) := by
          unfold headO
          rw [if_neg (fun h => by rw [he] at h; exact he0 h.2.2.1)]
          exact Lib.hid rfl
        have h00 : x = 0 := by rw [← hx]; exact longP_err (by rw [he]; exact he0)
        subst h00
        have Hx := Lib.hid (⟨hr1, hbt, hx, he⟩ : _ ∧ _ ∧ _ ∧ _)
        have hq : (e == 0) = false := by simpa using he0
        clear hr1 hbt hx he hcell hr
        go_enter Tryz.func115, Tryz.ntmps115
        go_wp2_with fail
        refine (tlong_any _ 5 _ _ w Hx.out.1 Hx.out.2.1 (by omega) (by omega) Hx.out.2.2.1 Hx.out.2.2.2).mono ?_
        rintro r w1 ⟨⟨A', n', c', rfl⟩, hb1⟩
        go_wp2_with fail
        go_ret2
        exact ⟨by rw [H.out]; rfl, hb1⟩
    · have H : Hid (headO l = none) := by
        unfold headO
        rw [if_neg (fun h => h1 h.2.1)]
        exact Lib.hid rfl
      have hq : (l[0]?.getD 0 != 1) = true := by simpa using h1
      clear hcell hr
      go_enter Tryz.func115, Tryz.ntmps115
      go_wp2_with fail
      go_ret2
      exact ⟨by rw [H.out]; rfl, Below.refl _ _⟩

end Go.Proofs.YtcpdjhkpmaamdaaGreat

namespace Go.Proofs.YtcpdjhkpmaamdaaGreat
open Go.RowKit
set_option linter.unusedVariables false

/-- A scope with one label: what holds at the label holds at its first coming and at every jump; so the code behind it is walked once. -/
theorem scope_wp {P : Program} {a : Act} {w : World} {Q : Exit → Act → World → Prop} {c rest : Code} (l : Nat) (J : Act → World → Prop) (μ : Act → World → Nat) (hf : findLabel c l = some (.seq .skip rest))
    (first : (∀ a w, J a w → rest.wp P (Exit.jump l J Q) a w) → c.wp P (Exit.jump l J Q) a w)
    (pass : ∀ a w, J a w → rest.wp P (Exit.jump l (fun a' w' => J a' w' ∧ μ a' w' < μ a w) Q) a w) : (Code.scope c).wp P Q a w :=
  wp_scope_jumps l J μ hf (first fun a w h => wp_mono (pass a w h) fun e a' w' hq => by
    cases e with
    | goto l' => exact ⟨hq.1, hq.2.1⟩
    | _ => exact hq) fun a w h => wp_seq (wp_skip (pass a w h))
theorem heap_set {W : World} {z i : Nat} {t : TypeId} {cs : Array Value} {fz : Nat × Nat} (h : W.heap[z]? = some (.cells cs t fz)) (v : Value) : (W.setCell ⟨z, i, none⟩ v).heap[z]? = some (.cells (cs.setIfInBounds i v) t fz) := by
  obtain ⟨hlt, hk⟩ := Array.getElem?_eq_some_iff.1 h
  show (W.heap.modify z _)[z]? = _
  rw [Array.getElem?_eq_getElem (by rw [Array.size_modify]; exact hlt), Array.getElem_modify_self, hk]
  rfl
theorem BoxE.s0 {W : World} {z : Nat} {x : EnP} (h : BoxE W z x) (v : Int) : BoxE (W.setCell ⟨z, 0, none⟩ (.int .i64 v)) z ⟨v, x.kd, x.vl⟩ := heap_set h _
theorem BoxE.s1 {W : World} {z : Nat} {x : EnP} (h : BoxE W z x) (v : Int) : BoxE (W.setCell ⟨z, 1, none⟩ (.int .i64 v)) z ⟨x.tm, v, x.vl⟩ := heap_set h _
theorem BoxE.s2 {W : World} {z : Nat} {x : EnP} (h : BoxE W z x) (v : Int) : BoxE (W.setCell ⟨z, 2, none⟩ (.int .i64 v)) z ⟨x.tm, x.kd, v⟩ := heap_set h _
theorem BoxE.frozen {W : World} {z : Nat} {x : EnP} (h : BoxE W z x) (i : Nat) : W.frozen? ⟨z, i, none⟩ = false := by
  simp [World.frozen?, show W.heap[z]? = _ from h]

theorem not_box {W : World} {z B n b off : Nat} {x : EnP} {L : List Int} (h : BoxE W z x) (hr : Rd W B .u8 (some ⟨b, off, none⟩) n L) (hn : 0 < n) : b ≠ z := by
  rintro rfl
  obtain ⟨b', off', e, _, hc⟩ := hr.2 hn
  injection e with e
  injection e with e1 e2
  subst e1 e2
  have h0 := hc 0 hn
  simp only [World.cell?, show W.heap[b]? = _ from h] at h0
  obtain ⟨hlt, h1⟩ := Array.getElem?_eq_some_iff.1 h0
  have hlt' : off + 0 < 3 := hlt
  rcases (by omega : off + 0 = 0 ∨ off + 0 = 1 ∨ off + 0 = 2) with e | e | e <;> simp [e] at h1
theorem rd_set {W : World} {z i B n b off : Nat} {L : List Int} {k : IntKind} (hr : Rd W B k (some ⟨b, off, none⟩) n L) (hB : B ≤ W.heap.size) (hne : b ≠ z) (v : Value) : Rd (W.setCell ⟨z, i, none⟩ v) (W.setCell ⟨z, i, none⟩ v).heap.size k (some ⟨b, off, none⟩) n L := by
  have h := (Below.refl 0 W).setCell (p := ⟨z, i, none⟩) (Nat.zero_le _) v
  exact rd_over (c := n) hr hB (row := some z) ⟨h.os, h.tape, h.output, h.size, fun k _ hk => Below.heap_setCell _ _ _ k (by simpa using fun e => hk (by rw [e]))⟩ (fun g hg e => by
    have h1 : b = g := by simpa [Value.ownBlock] using hg
    have h2 : z = g := by simpa using e
    omega)

/-- What recordOf answers. -/
def recV [Inhabited Cr.Rows16] (l : List Int) : Value := .tuple #[((recOf l).getD ⟨0, 0, 0⟩).v, .bool (recOf l).isSome]
/-- What holds where none stands. -/
def RJ [Inhabited Cr.Rows16] (w : World) (z : Nat) (l : List Int) (a : Act) (W : World) : Prop :=
  ∃ (u0 u1 u3 u4 u5 u6 u7 u8 u9 u10 u11 u12 u13 u14 u15 u16 u17 u18 u19 u20 u21 u22 u23 u24 u25 u26 u27 u28 u29 u30 u31 u32 u33 u34 u35 u36 u37 u38 u39 u40 u41 u42 u43 u44 u45 u46 u47 u48 u49 u50 u51 : Value) (x : EnP), BoxE W z x ∧ Below w.heap.size w W ∧ recOf l = none ∧ a = { tmps := #[u0, u1, .pointer (some ⟨z, 0, none⟩), u3, u4, u5, u6, u7, u8, u9, u10, u11, u12, u13, u14, u15, u16, u17, u18, u19, u20, u21, u22, u23, u24, u25, u26, u27, u28, u29, u30, u31, u32, u33, u34, u35, u36, u37, u38, u39, u40, u41, u42, u43, u44, u45, u46, u47, u48, u49, u50, u51], defers := [] }

set_option maxRecDepth 100000 in
set_option maxHeartbeats 2000000 in
theorem recordOf_any [Inhabited Cr.Rows16] (A : Option Addr) (n c : Nat) (l : List Int) (w : World) (hT : Cr.Tab w) (hr : Rd w w.heap.size .u8 A n l) (hb : Byt l) (hnc : n ≤ c) :
    Calls Tryz.prog 122 #[.slice A n c] w fun e w' => e = .returned (recV l) ∧ Below w.heap.size w w' := by
  have Hl := Lib.hid hr.1
  unfold recV
  go_enter Tryz.func122, Tryz.ntmps122
  go_wp2_with fail
  obtain ⟨z, hz⟩ : ∃ z, z = w.heap.size := ⟨_, rfl⟩
  obtain ⟨w0, hw0⟩ : ∃ w0, w0 = w.alloc (.cells #[.int .i64 0, .int .i64 0, .int .i64 0] 41) := ⟨_, rfl⟩
  have hB0 : Below w.heap.size w w0 := by rw [hw0]; exact below_al (below_d0 w) _
  have b0 : BoxE w0 z ⟨0, 0, 0⟩ := by rw [hw0, hz]; exact BoxE.new w ⟨0, 0, 0⟩
  rw [← hw0, ← hz]
  have Hz := Lib.hid (show w.heap.size ≤ z ∧ z = w.heap.size by omega)
  clear hw0 hz
  refine scope_wp 0 (RJ w z l) (fun _ _ => 0) rfl ?first ?pass
  case first =>
    intro hrest
    by_cases h15 : n < 15
    · have H := Lib.hid (recOf_short (b := l) (by rw [Hl.out]; exact h15))
      clear hr
      go_wp2_with fail
      refine wp_goto ⟨rfl, _, _, _, _, _, _, _, _, _, _, _, _, _, _, _, _, _, _, _, _, _, _, _, _, _, _, _, _, _, _, _, _, _, _, _, _, _, _, _, _, _, _, _, _, _, _, _, _, _, _, _, _, b0, hB0, H.out, rfl⟩
    · have h15' : 15 ≤ l.length := by rw [Hl.out]; omega
      have hr15 := (hr.first (m := 15) (by omega)).on hB0 hB0.size
      have e11 : (l.take 15).length - 4 = 11 := by rw [List.length_take]; omega
      have e11' : (l.take 15).take 11 = l.take 11 := by rw [List.take_take]; rfl
      obtain ⟨b, off, rfl, hbl, hcell⟩ := hr.at_ (by omega)
      clear hcell hr
      go_wp2_with fail
      refine (Cr.take_in _ 15 c (l.take 15) w0 (hT.on hB0) hr15 (hb.take 15) (by omega) (by omega)).mono ?_
      rintro e w1 ⟨hP, hb1⟩
      have b1 := b0.below hb1
      have hB1 := hB0.trans (hb1.mono hB0.size)
      rcases hP with ⟨hno, rfl⟩ | ⟨hok, At, ct, rfl, hct, hrt⟩
      · have H := Lib.hid (⟨b1, hB1, recOf_sum hno⟩ : _ ∧ _ ∧ _)
        clear b0 hB0 hb1 b1 hB1 hno hr15 e11
        go_wp2_with fail
        refine wp_goto ⟨rfl, _, _, _, _, _, _, _, _, _, _, _, _, _, _, _, _, _, _, _, _, _, _, _, _, _, _, _, _, _, _, _, _, _, _, _, _, _, _, _, _, _, _, _, _, _, _, _, _, _, _, _, _, H.out.1, H.out.2.1, H.out.2.2, rfl⟩
      · rw [e11, e11'] at hrt
        rw [e11] at hct ⊢
        obtain ⟨bt, ot, rfl, hbt, hcellt⟩ := hrt.at_ (by omega)
        have c5 := hcellt 5 (by omega)
        have rA := hrt.first (m := 5) (by omega)
        have rB : Rd w1 w1.heap.size .u8 (some ⟨bt, ot + 6, none⟩) 5 ((l.take 11).drop 6) := Nu.Rd.cut_at (m := 6) hrt (by omega)
        have hne := not_box b1 hrt (by omega)
        have hbA : Byt ((l.take 11).take 5) := (hb.take 11).take 5
        have hbB : Byt ((l.take 11).drop 6) := (hb.take 11).drop 6
        obtain ⟨q, hq⟩ : ∃ q, (l.take 11)[5]?.getD 0 = q := ⟨_, rfl⟩
        have hq2 := (hb.take 11).at_ 5
        obtain ⟨p, hp⟩ : ∃ p, (Nu.longP ((l.take 11).take 5)).1 = p := ⟨_, rfl⟩
        obtain ⟨e1, he1⟩ : ∃ e1, (Nu.longP ((l.take 11).take 5)).2.2 = e1 := ⟨_, rfl⟩
        obtain ⟨v, hv⟩ : ∃ v, (Nu.longP ((l.take 11).drop 6)).1 = v := ⟨_, rfl⟩
        obtain ⟨e2, he2⟩ : ∃ e2, (Nu.longP ((l.take 11).drop 6)).2.2 = e2 := ⟨_, rfl⟩
        rw [hq] at c5 hq2
        obtain ⟨hq3, hq4⟩ := hq2
        have hrec : recOf l = if e1 = 0 ∧ e2 = 0 ∧ RightP ⟨p, q, v⟩ then some ⟨p, q, v⟩ else none := by
          unfold recOf
          rw [hq, hp, he1, hv, he2]
          by_cases h : e1 = 0 ∧ e2 = 0 ∧ RightP ⟨p, q, v⟩
          · rw [if_pos h, if_pos ⟨h15', hok, h⟩]
          · rw [if_neg h, if_neg (fun h' => h h'.2.2)]
        have H1 := Lib.hid (⟨rA, rB, hbA, hbB, hp, he1, hv, he2, hne, b1, hB1⟩ : _ ∧ _ ∧ _ ∧ _ ∧ _ ∧ _ ∧ _ ∧ _ ∧ _ ∧ _ ∧ _)
        have Hrec := Lib.hid hrec
        have Hct := Lib.hid hct
        clear rA rB hbA hbB hp he1 hv he2 hne b1 hB1 hrec hb1 hcellt hrt hok hq hr15 b0 hB0 e11 e11' h15'
        go_wp2_with fail
        refine (tlong_any _ 5 _ _ w1 H1.out.1 H1.out.2.2.1 (by have := Hct.out; omega) (by omega) H1.out.2.2.2.2.1 H1.out.2.2.2.2.2.1).mono ?_
        rintro r w2 ⟨⟨A', n', c', rfl⟩, hb2⟩
        have b2 := H1.out.2.2.2.2.2.2.2.2.2.1.below hb2
        have hB2 := H1.out.2.2.2.2.2.2.2.2.2.2.trans (hb2.mono H1.out.2.2.2.2.2.2.2.2.2.2.size)
        have rB2 := H1.out.2.1.on hb2 hb2.size
        have c5 := (hb2.cell (p := ⟨bt, ot + 5, none⟩) hbt).trans c5
        have f0 := b2.frozen 0
        have f1 := b2.frozen 1
        obtain ⟨d0, d1, d2⟩ := b2.cells
        have hne := H1.out.2.2.2.2.2.2.2.2.1
        have hne' : ¬ z = bt := fun e => hne e.symm
        have b3 := (b2.s0 p).s1 q
        have hB3 := (hB2.setCell (p := ⟨z, 0, none⟩) (show w.heap.size ≤ z by have := Hz.out; omega) (.int .i64 p)).setCell (p := ⟨z, 1, none⟩) (show w.heap.size ≤ z by have := Hz.out; omega) (.int .i64 q)
        have rB3 := rd_set (i := 1) (rd_set (i := 0) rB2 (Nat.le_refl _) hne (.int .i64 p)) (Nat.le_refl _) hne (.int .i64 q)
        obtain ⟨w3, hw3⟩ : ∃ w3, w3 = (w2.setCell ⟨z, 0, none⟩ (.int .i64 p)).setCell ⟨z, 1, none⟩ (.int .i64 q) := ⟨_, rfl⟩
        rw [← hw3] at b3 hB3 rB3
        have H3 := Lib.hid (⟨b3, hB3, rB3, hw3⟩ : _ ∧ _ ∧ _ ∧ _)
        clear b2 hB2 rB2 b3 hB3 rB3 hb2 hne
        go_wp2_with fail
        rw [← hw3]
        clear hw3 f0 f1 d0 d1 d2 c5
        refine (tlong_any _ 5 _ _ w3 H3.out.2.2.1 H1.out.2.2.2.1 (by have := Hct.out; omega) (by omega) H1.out.2.2.2.2.2.2.1 H1.out.2.2.2.2.2.2.2.1).mono ?_
        rintro r w4 ⟨⟨A'', n'', c'', rfl⟩, hb4⟩
        have b4 := H3.out.1.below hb4
        have hB4 := H3.out.2.1.trans (hb4.mono H3.out.2.1.size)
        have f2 := b4.frozen 2
        obtain ⟨d0, d1, d2⟩ := b4.cells
        have b5 := b4.s2 v
        have hB5 := hB4.setCell (p := ⟨z, 2, none⟩) (show w.heap.size ≤ z by have := Hz.out; omega) (.int .i64 v)
        obtain ⟨g0, g1, g2⟩ := b5.cells
        have k0 := b5.frozen 0
        have k1 := b5.frozen 1
        have k2 := b5.frozen 2
        have H5 := Lib.hid (⟨b5, hB5⟩ : _ ∧ _)
        clear hb4 b4 hB4 b5 hB5
        by_cases h1 : e1 = 0
        · by_cases h2 : e2 = 0
          · subst h1 h2
            by_cases hR : RightP ⟨p, q, v⟩
            · have HR := Lib.hid (⟨hR, Hrec.out.trans (if_pos ⟨rfl, rfl, hR⟩)⟩ : _ ∧ _)
              have e1 := rightB_iff.2 hR
              clear hR
              go_wp2_with fail
              refine (right_any ⟨p, q, v⟩ _).mono ?_
              rintro r w6 ⟨rfl, hb6⟩
              rw [e1]
              have b6 := H5.out.1.below hb6
              have hB6 := H5.out.2.trans (hb6.mono H5.out.2.size)
              obtain ⟨m0, m1, m2⟩ := b6.cells
              have l0 := b6.frozen 0
              have l1 := b6.frozen 1
              have l2 := b6.frozen 2
              have H6 := Lib.hid (⟨b6, hB6⟩ : _ ∧ _)
              clear hb6 e1 b6 hB6 g0 g1 g2 k0 k1 k2 d0 d1 d2
              go_wp2_with fail
              simp only [Exit.jump]
              have b7 := ((H6.out.1.s0 p).s1 q).s2 v
              have hz := Hz.out.1
              have hB7 := ((H6.out.2.setCell (p := ⟨z, 0, none⟩) hz (.int .i64 p)).setCell (p := ⟨z, 1, none⟩) hz (.int .i64 q)).setCell (p := ⟨z, 2, none⟩) hz (.int .i64 v)
              obtain ⟨d0, d1, d2⟩ := b7.cells
              exact bodyPost_ret (v := .tuple #[.agg #[.int .i64 p, .int .i64 q, .int .i64 v], .bool true]) (by simp [results, Tryz.results122, go_sem, d0, d1, d2]) rfl ⟨by rw [HR.out.2]; rfl, hB7⟩
            · have HR := Lib.hid (Hrec.out.trans (if_neg (fun h => hR h.2.2)))
              have e1 := rightB_not.2 hR
              clear hR
              go_wp2_with fail
              refine (right_any ⟨p, q, v⟩ _).mono ?_
              rintro r w6 ⟨rfl, hb6⟩
              rw [e1]
              have H6 := Lib.hid (⟨H5.out.1.below hb6, H5.out.2.trans (hb6.mono H5.out.2.size)⟩ : _ ∧ _)
              clear hb6 e1
              go_wp2_with fail
              refine wp_goto ⟨rfl, _, _, _, _, _, _, _, _, _, _, _, _, _, _, _, _, _, _, _, _, _, _, _, _, _, _, _, _, _, _, _, _, _, _, _, _, _, _, _, _, _, _, _, _, _, _, _, _, _, _, _, _, H6.out.1, H6.out.2, HR.out, rfl⟩
          · have HR := Lib.hid (Hrec.out.trans (if_neg (fun h => h2 h.2.1)))
            have q2 : (e2 != 0) = true := by simpa using h2
            subst h1
            clear h2
            go_wp2_with fail
            refine wp_goto ⟨rfl, _, _, _, _, _, _, _, _, _, _, _, _, _, _, _, _, _, _, _, _, _, _, _, _, _, _, _, _, _, _, _, _, _, _, _, _, _, _, _, _, _, _, _, _, _, _, _, _, _, _, _, _, H5.out.1, H5.out.2, HR.out, rfl⟩
        · have HR := Lib.hid (Hrec.out.trans (if_neg (fun h => h1 h.1)))
          have q1 : (e1 != 0) = true := by simpa using h1
          clear h1
          go_wp2_with fail
          refine wp_goto ⟨rfl, _, _, _, _, _, _, _, _, _, _, _, _, _, _, _, _, _, _, _, _, _, _, _, _, _, _, _, _, _, _, _, _, _, _, _, _, _, _, _, _, _, _, _, _, _, _, _, _, _, _, _, _, H5.out.1, H5.out.2, HR.out, rfl⟩
  case pass =>
    rintro a' wr ⟨u0, u1, u3, u4, u5, u6, u7, u8, u9, u10, u11, u12, u13, u14, u15, u16, u17, u18, u19, u20, u21, u22, u23, u24, u25, u26, u27, u28, u29, u30, u31, u32, u33, u34, u35, u36, u37, u38, u39, u40, u41, u42, u43, u44, u45, u46, u47, u48, u49, u50, u51, x, b1, hB1, hno, rfl⟩
    obtain ⟨c0, c1, c2⟩ := b1.cells
    have f0 := b1.frozen 0
    have f1 := b1.frozen 1
    have f2 := b1.frozen 2
    have H := Lib.hid (⟨b1, hB1, hno⟩ : _ ∧ _ ∧ _)
    clear b1 hB1 hno
    go_wp2_with fail
    simp only [Exit.jump]
    have b3 := ((H.out.1.s0 0).s1 0).s2 0
    have hz := Hz.out.1
    have hB3 := ((H.out.2.1.setCell (p := ⟨z, 0, none⟩) hz (.int .i64 0)).setCell (p := ⟨z, 1, none⟩) hz (.int .i64 0)).setCell (p := ⟨z, 2, none⟩) hz (.int .i64 0)
    obtain ⟨d0, d1, d2⟩ := b3.cells
    exact bodyPost_ret (v := .tuple #[.agg #[.int .i64 0, .int .i64 0, .int .i64 0], .bool false]) (by simp [results, Tryz.results122, go_sem, d0, d1, d2]) rfl ⟨by rw [H.out.2.2]; rfl, hB3⟩

end Go.Proofs.YtcpdjhkpmaamdaaGreat

namespace Go.Proofs.YtcpdjhkpmaamdaaGreat
open Go.RowKit Go.Shelf
set_option linter.unusedVariables false

attribute [local go_sem] Oper.semAt_some

/-- A record that is handed over: where it lies, its capacity, of which entry. -/
structure HR where
  A : Option Addr
  c : Nat
  n : Nat
  er : Int
  e : EnP
abbrev encR (x : HR) : Array Value := #[.slice x.A x.n x.c, .int .i64 x.er]
/-- What lies there. -/
def MemR [Inhabited Cr.Rows16] (x : HR) (W : World) : Prop := (RightP x.e ∧ x.n = 15 ∧ x.er = 0 ∧ Rd W W.heap.size .u8 x.A 15 (recL x.e)) ∨ (¬ RightP x.e ∧ x.er = 2)
/-- What is told of it. -/
def OkR [Inhabited Cr.Rows16] (l : List EnP) (pre : List HR) (x : HR) (W : World) : Prop := l[pre.length]? = some x.e ∧ MemR x W
theorem MemR.put [Inhabited Cr.Rows16] {x : HR} {W : World} {i : Nat} {o o' : Obj} (h : MemR x W) (hi : W.heap[i]? = some o) (ho : o.isCells = false) : MemR x (W.putObj i o') := by
  rcases h with ⟨h1, h2, h3, h4⟩ | h
  · refine .inl ⟨h1, h2, h3, rd_over (c := x.c) h4 (Nat.le_refl _) (grownBy_putObj' W i o') fun g hg e => ?_⟩
    obtain ⟨b, off, e1, hb, hc⟩ := h4.2 (by omega)
    rw [e1] at hg
    have hgb : b = g := by simpa [Value.ownBlock] using hg
    have hig : i = g := by simpa using e
    have h0 := hc 0 (by omega)
    unfold World.cell? at h0
    subst hgb hig
    rw [show W.heap[i]? = _ from hi] at h0
    cases o <;> simp [Obj.isCells] at ho h0
  · exact .inr h

theorem tab_low [Inhabited Cr.Rows16] {B0 : Nat} {W W' : World} (hT : Cr.Tab W) (hB : 0 < B0) (hB0 : B0 ≤ W.heap.size) (h : KpL B0 W W') : Cr.Tab W' :=
  ⟨Nat.lt_of_lt_of_le hB (h.size hB0), fun i hi => (World.cell?_of_block (a := ⟨0, i, none⟩) (h _ hB)).trans (hT.2 i hi)⟩

set_option maxRecDepth 100000 in
set_option maxHeartbeats 2000000 in
theorem puts_in [Inhabited Cr.Rows16] (l0 s B0 : Nat) {A : Option Addr} {n c : Nat} {l : List EnP} (hn : n ≤ 1000000) (J Jx : List HR → World → Prop) (W : World) (hJ : StaysT 9 W.heap.size J)
    (hY : ∀ pre x W1, J pre W1 → OkR l pre x W1 → YieldAt Fence.wide 2 Tryz.prog l0 (encR x) W1 fun e W' =>
      (e = .returned (.bool true) ∧ J (pre ++ [x]) W' ∧ KpL B0 W1 W') ∨ (e = .returned (.bool false) ∧ Jx (pre ++ [x]) W'))
    (hcs : W.cell? ⟨s, 0, none⟩ = some (.slice A n c)) (hr : Es W B0 A n l) (hT : 0 < B0 ∧ Cr.Tab W) (hB0 : B0 ≤ W.heap.size) (h0 : J [] W) :
    CallsIn Fence.wide 3 Tryz.prog 118 #[.func (.yield l0) #[] #[], .pointer (some ⟨s, 0, none⟩)] W fun e W' => (∃ v, e = .returned v) ∧
      ((∃ ys : List HR, ys.length = l.length ∧ J ys W') ∨ (∃ pre, Jx pre W')) := by
  have Hl := Lib.hid hr.len
  have Hr := Lib.hid (⟨hr, hB0, hT⟩ : _ ∧ _ ∧ _)
  have HJ := Lib.hid hJ
  have HY := Lib.hid hY
  clear hr hB0 hJ hY hT
  refine callsIn_of_wp Tryz.func118 rfl trivial ?_ rfl
  simp only [Tryz.ntmps118, List.size_toArray, List.length_cons, List.length_nil, Nat.reduceAdd, Nat.reduceSub, Array.replicate_succ, Array.replicate_zero, List.push_toArray, List.append_toArray, List.nil_append, List.cons_append]
  gi_wp2_with fail
  gi_loopw [7] (fun i wr => ∃ (k : Nat) (pre : List HR), k ≤ n ∧ i = .int .i64 k ∧ pre.length = k ∧ J pre wr ∧ KpL B0 W wr) (fun i _ => n - (intOf i).toNat)
  case atStart => exact ⟨0, [], Nat.zero_le _, rfl, rfl, h0, KpL.refl _ _⟩
  case round =>
    obtain ⟨k, pre, hk, rfl, hpre, hj, hB⟩ := hrel
    by_cases hlt : k < n
    · obtain ⟨b, off, e, rfl, hb, he, c0, c1, c2⟩ := Es.at_ (Hr.out.1.low hB) hlt
      have hBw := hB.size Hr.out.2.1
      have hTr := tab_low Hr.out.2.2.2 Hr.out.2.2.1 Hr.out.2.1 hB
      obtain ⟨w2, hw2⟩ : ∃ w2, w2 = wr.alloc (.cells #[.int .i64 e.tm, .int .i64 e.kd, .int .i64 e.vl] 41) := ⟨_, rfl⟩
      have hb2 : Below wr.heap.size wr w2 := by rw [hw2]; exact (Below.refl _ _).alloc (Nat.le_refl _) _
      have bx2 : BoxE w2 wr.heap.size e := by rw [hw2]; exact BoxE.new wr e
      obtain ⟨k0, k1, k2⟩ := bx2.cells
      have H2 := Lib.hid (⟨hj, hB, hBw, hTr, hb2, he, hpre, hw2⟩ : _ ∧ _ ∧ _ ∧ _ ∧ _ ∧ _ ∧ _ ∧ _)
      rw [hw2] at k0 k1 k2
      clear hj hB hBw hTr hb2 bx2 he hpre hw2 hcs h0
      gi_wp2_with fail
      rw [← H2.out.2.2.2.2.2.2.2]
      refine ⟨trivial, ?_⟩
      refine (callsIn_wide.2 (put1_any e w2 (tab_low H2.out.2.2.2.1 Hr.out.2.2.1 H2.out.2.2.1 (KpL.below H2.out.2.2.2.2.1 H2.out.2.2.1)))).mono ?_
      rintro r w3 ⟨hP, hb3⟩
      obtain ⟨x, hx, hok⟩ : ∃ x : HR, r = .returned (.tuple #[.slice x.A x.n x.c, .int .i64 x.er]) ∧ OkR l pre x w3 := by
        rcases hP with ⟨hR, A', c', e1, hc, hrd⟩ | ⟨hR, e1⟩
        · exact ⟨⟨A', c', 15, 0, e⟩, e1, by rw [H2.out.2.2.2.2.2.2.1]; exact H2.out.2.2.2.2.2.1, .inl ⟨hR, rfl, rfl, hrd⟩⟩
        · exact ⟨⟨none, 0, 0, 2, e⟩, e1, by rw [H2.out.2.2.2.2.2.2.1]; exact H2.out.2.2.2.2.2.1, .inr ⟨hR, rfl⟩⟩
      subst hx
      have hb3' : Below wr.heap.size wr w3 := H2.out.2.2.2.2.1.trans (hb3.mono H2.out.2.2.2.2.1.size)
      have hj3 : J pre w3 := HJ.out _ wr _ none H2.out.1 (grown_of hb3') (fun r e => by cases e)
      have hB3 : KpL B0 W w3 := H2.out.2.1.trans (KpL.below hb3' H2.out.2.2.1)
      obtain ⟨fn, tmps, assign, body, hy, hR⟩ := HY.out pre x w3 hj3 hok
      have H3 := Lib.hid (⟨hB3, H2.out.2.2.2.2.2.2.1⟩ : _ ∧ _)
      dsimp only [encR] at hy
      clear hP hb3 hb3' hj3 hB3 hok k0 k1 k2 c0 c1 c2 hb
      gi_wp2_with fail
      refine hR.mono ?_
      rintro e' W3 (⟨rfl, hJ3, hk3⟩ | ⟨rfl, hJx3⟩)
      · have H4 := Lib.hid (⟨hJ3, H3.out.1.trans hk3⟩ : _ ∧ _)
        clear hJ3 hk3
        gi_wp2_with fail
        go_roundw
        case rel => exact ⟨k + 1, pre ++ [x], by omega, by go_num, by rw [List.length_append, H3.out.2]; rfl, H4.out.1, H4.out.2⟩
        case measure => simp [intOf]; omega
      · have H4 := Lib.hid hJx3
        clear hJx3
        gi_wp2_with fail
        refine bodyPost_ret (results_none rfl _ _ _) rfl ?_
        exact ⟨⟨_, rfl⟩, .inr ⟨_, H4.out⟩⟩
    · obtain rfl : k = n := by omega
      clear hcs h0
      have HJ2 := Lib.hid (⟨hj, hpre⟩ : _ ∧ _)
      clear hj hpre
      gi_wp2_with fail
      go_end0
      exact ⟨⟨_, rfl⟩, .inl ⟨pre, by rw [HJ2.out.2, Hl.out], HJ2.out.1⟩⟩

/-- The iterator's contract. -/
theorem puts_seq [Inhabited Cr.Rows16] (s B0 : Nat) {A : Option Addr} {n c : Nat} {l : List EnP} (hn : n ≤ 1000000) (w : World) (hB : B0 ≤ w.heap.size) (hs : Boxed w s 22 (.slice A n c)) (hr : Es w B0 A n l) (hT : 0 < B0 ∧ Cr.Tab w) :
    SeqW 9 Fence.wide 3 Tryz.prog 118 #[.pointer (some ⟨s, 0, none⟩)] encR (KpL B0) (fun ys => ys.length = l.length) (OkR l) w := fun l0 J Jx W hW hJ _ hY h0 =>
  puts_in l0 s B0 hn J Jx W hJ hY ((hW.cell (p := ⟨s, 0, none⟩) hs.lt).trans hs.cell) (hr.low fun k hk => hW.block k (by omega)) ⟨hT.1, hT.2.on hW⟩ (Nat.le_trans hB hW.size) h0

/-- What puts answers. -/
def PutsOut (A : Option Addr) (n c : Nat) (w : World) (e : Ending) (w' : World) : Prop :=
  e = .returned (.func (.func 118) #[] #[.pointer (some ⟨w.heap.size, 0, none⟩)]) ∧ Boxed w' w.heap.size 22 (.slice A n c) ∧ w'.heap.size = w.heap.size + 1 ∧ Below w.heap.size w w'
set_option maxRecDepth 100000 in
set_option maxHeartbeats 400000 in
theorem puts_any (A : Option Addr) (n c : Nat) (w : World) : Calls Tryz.prog 114 #[.slice A n c] w (PutsOut A n c w) := by
  go_enter Tryz.func114, Tryz.ntmps114
  go_wp2
  go_ret
  exact ⟨rfl, Boxed.new w _ _, by simp, (Below.refl _ w).alloc (Nat.le_refl _) _⟩

end Go.Proofs.YtcpdjhkpmaamdaaGreat

namespace Go.Proofs.YtcpdjhkpmaamdaaGreat
open Go.RowKit Go.Shelf
set_option linter.unusedVariables false

attribute [local go_sem] Oper.semAt_some

/-- Between two rounds: the box b holds a row of the call's own of the records so far; the results' boxes hold nothing yet. -/
structure PInv [Inhabited Cr.Rows16] (w : World) (l : List EnP) (r b D : Nat) (pre : List HR) (W : World) : Prop where
  row : ∃ v, Boxed W b 23 v ∧ W.ownsRow w.heap.size 5 1 v (15 * pre.length) ((recsL (l.take pre.length)).map (Value.int .u8))
  all : AllR (l.take pre.length)
  r0 : Boxed W r 23 (.slice none 0 0)
  r1 : Boxed W (r + 1) 25 (.int .i64 0)
  low : Below w.heap.size w W
  size : D ≤ W.heap.size
theorem PInv.own [Inhabited Cr.Rows16] {w : World} {l : List EnP} {r b D : Nat} (hb : b < D) (hr : r + 1 < D) (hw : w.heap.size ≤ D) : OwnT 9 D (PInv w l r b D) := fun _ W W' row h hg hr' => by
  obtain ⟨⟨v, hv, hrow⟩, hall, h0, h1, hlow, hsz⟩ := h
  have hne : ∀ k, k < D → some k ≠ row := fun k hk e => by have := (hr' k e.symm).1; omega
  refine ⟨⟨v, (hg.block b hv.lt (hne b hb)).trans hv, hrow.kept hg (row_ne (by decide) hrow fun r e => (hr' r e).2)⟩, hall, (hg.block r h0.lt (hne r (by omega))).trans h0, (hg.block (r + 1) h1.lt (hne _ hr)).trans h1, ?_, Nat.le_trans hsz hg.size⟩
  exact hlow.grown hg hlow.size (fun k e => by have := (hr' k e).1; omega)
/-- .. and when one may not be. -/
structure PEnd (w : World) (l : List EnP) (r D : Nat) (W : World) : Prop where
  no : ¬ AllR l
  r0 : Boxed W r 23 (.slice none 0 0)
  r1 : Boxed W (r + 1) 25 (.int .i64 2)
  low : Below w.heap.size w W
  size : D ≤ W.heap.size
theorem PEnd.own {w : World} {l : List EnP} {r D : Nat} (hr : r + 1 < D) (hw : w.heap.size ≤ D) (c : Code) : OwnT 9 D (fun (_ : List HR) W => c = Code.ret ∧ PEnd w l r D W) :=
  ownT_low (fun _ _ h => h.2.size) fun _ _ _ h hb => ⟨h.1, h.2.no, (hb.block r (by omega)).trans h.2.r0, (hb.block (r + 1) hr).trans h.2.r1, h.2.low.trans (hb.mono hw), Nat.le_trans h.2.size hb.size⟩
/-- A row of the call's own lies on where marks are taken away. -/
theorem own_marks {w w' : World} {B base : Nat} {e : TypeId} {size : Nat} {v : Value} {n : Nat} {xs : List Value} (h : w.ownsRow base e size v n xs) (hb : CellsKept B w w') : w'.ownsRow base e size v n xs := by
  refine ⟨h.1, ?_⟩
  rcases h.2 with a | ⟨g, cap, cur, e1, hbg, hh, r⟩
  · exact .inl a
  · exact .inr ⟨g, cap, cur, e1, hbg, hb.2 g _ hh rfl, r⟩
/-- 'b = append(b, ..)' at a box of the call's own: what lies behind the store. -/
theorem box_appended {W w1 : World} {n₀ B : Nat} {t e : TypeId} {size : Nat} {v v' : Value} {k m : Nat} {xs ys : List Value}
    (hv : Boxed W B t v) (hte : t ≠ e) (hrow : W.ownsRow n₀ e size v k xs) (hn₀ : n₀ ≤ W.heap.size) (hB : n₀ ≤ B)
    (hown' : w1.ownsRow n₀ e size v' m ys) (hgrow : W.grownBy w1 v.ownBlock) :
    Boxed w1 B t v ∧ Boxed (w1.setCell ⟨B, 0, none⟩ v') B t v' ∧ (w1.setCell ⟨B, 0, none⟩ v').ownsRow n₀ e size v' m ys ∧ KeepsOthers W (w1.setCell ⟨B, 0, none⟩ v') ∧ Below n₀ W (w1.setCell ⟨B, 0, none⟩ v') := by
  have hv1 : Boxed w1 B t v := hv.kept hgrow (hv.not_row hte hrow)
  refine ⟨hv1, hv1.set v', hown'.kept (grownBy_setCell' w1 B v') (.inr (hv1.not_row hte hown').symm), ?_, ?_⟩
  · refine (KeepsOthers.of_grownBy hgrow fun j o ej hj => ?_).trans (KeepsOthers.setCell _ _ _)
    rcases hrow.2 with ⟨rfl, _⟩ | ⟨g, cap, cur, rfl, _, hgb, _⟩
    · simp [Value.ownBlock] at ej
    · obtain rfl : g = j := by simpa [Value.ownBlock] using ej
      rw [hgb] at hj; cases hj; rfl
  · refine ((Below.refl n₀ W).grown hgrow hn₀ fun j ej => ?_).setCell (p := ⟨B, 0, none⟩) hB v'
    rcases hrow.2 with ⟨rfl, _⟩ | ⟨g, cap, cur, rfl, hb, _, _⟩
    · simp [Value.ownBlock] at ej
    · obtain rfl : g = j := by simpa [Value.ownBlock] using ej
      exact hb

set_option maxRecDepth 100000 in
set_option maxHeartbeats 2000000 in
theorem put_in [Inhabited Cr.Rows16] (A : Option Addr) (n c : Nat) (l : List EnP) (w : World) (hT : Cr.Tab w) (hl : Es w w.heap.size A n l) (hn : n ≤ 1000000) :
    CallsIn Fence.wide 4 Tryz.prog 111 #[.slice A n c] w (Tel w (putP l)) := by
  obtain ⟨i0, hi, hz0, hz1, hz2⟩ := info_parts Cr.info_u8
  have Hl := Lib.hid (⟨hl, hT, hl.len⟩ : _ ∧ _ ∧ _)
  clear hl hT
  refine callsIn_of_wp_marks Tryz.func111 rfl trivial ?_ rfl
  simp only [Tryz.ntmps111, List.size_toArray, List.length_cons, List.length_nil, Nat.reduceAdd, Nat.reduceSub, Array.replicate_succ, Array.replicate_zero, List.push_toArray, List.append_toArray, List.nil_append, List.cons_append]
  gi_wp2_with fail
  obtain ⟨r, hr⟩ : ∃ r, r = w.heap.size := ⟨_, rfl⟩
  obtain ⟨wa, hwa⟩ : ∃ wa, wa = w.alloc (.cells #[.slice none 0 0] 23) := ⟨_, rfl⟩
  obtain ⟨wb, hwb⟩ : ∃ wb, wb = wa.alloc (.cells #[.int .i64 0] 25) := ⟨_, rfl⟩
  obtain ⟨w0, hw0⟩ : ∃ w0, w0 = wb.alloc (.cells #[.slice none 0 0] 23) := ⟨_, rfl⟩
  have hsa : wa.heap.size = r + 1 := by rw [hwa, hr]; simp
  have hsb : wb.heap.size = r + 2 := by rw [hwb]; simp [hsa]
  have hs0 : w0.heap.size = r + 3 := by rw [hw0]; simp [hsb]
  have hB0 : Below w.heap.size w w0 := by rw [hw0, hwb, hwa]; exact (((Below.refl _ _).alloc (Nat.le_refl _) _).alloc (by simp) _).alloc (by simp; omega) _
  have br0 : Boxed w0 r 23 (.slice none 0 0) := by
    have h : Boxed wa r 23 (.slice none 0 0) := by rw [hwa, hr]; exact Boxed.new _ _ _
    rw [hw0, hwb]; exact (h.alloc _).alloc _
  have br1 : Boxed w0 (r + 1) 25 (.int .i64 0) := by
    have h : Boxed wb (r + 1) 25 (.int .i64 0) := by rw [hwb, ← hsa]; exact Boxed.new _ _ _
    rw [hw0]; exact h.alloc _
  have bb0 : Boxed w0 (r + 2) 23 (.slice none 0 0) := by rw [hw0, ← hsb]; exact Boxed.new _ _ _
  have he : w0 = ((w.alloc (.cells #[.slice none 0 0] 23)).alloc (.cells #[.int .i64 0] 25)).alloc (.cells #[.slice none 0 0] 23) := by rw [hw0, hwb, hwa]
  rw [← he, ← hr]
  have Hd := Lib.hid (show w.heap.size ≤ r ∧ w0.heap.size = r + 3 by omega)
  clear he hw0 hwb hwa hr hsa hsb hs0
  refine ⟨trivial, ?_⟩
  refine (callsIn_wide.2 (puts_any A n c w0)).mono ?_
  rintro e w1 ⟨rfl, hl1, hs1, hb1⟩
  obtain ⟨sB, hsB⟩ : ∃ sB, sB = w0.heap.size := ⟨_, rfl⟩
  rw [← hsB] at hl1 ⊢
  have hd := Hd.out
  have h0 : PInv w l r (r + 2) w1.heap.size [] w1 := ⟨⟨_, (hb1.block _ bb0.lt).trans bb0, World.ownsRow_nil _ _ _ _⟩, AllR.nil, (hb1.block _ br0.lt).trans br0, (hb1.block _ br1.lt).trans br1, hB0.trans (hb1.mono (by omega)), Nat.le_refl _⟩
  have Hd3 := Lib.hid (show w.heap.size ≤ r ∧ sB = r + 3 ∧ w1.heap.size = sB + 1 by omega)
  have hT1 : 0 < w.heap.size ∧ Cr.Tab w1 := ⟨Hl.out.2.1.1, Hl.out.2.1.on h0.low⟩
  have H0 := Lib.hid (⟨h0, hl1, Hl.out.1.low (w' := w1) (fun k hk => h0.low.block k hk), hT1⟩ : _ ∧ _ ∧ _ ∧ _)
  clear h0 hl1 hs1 hb1 bb0 br0 br1 hB0 hsB hd hT1
  gi_wp2_with fail
  refine range_W 9 rfl (by decide) (gf := 118) (lb := #[.pointer (some ⟨sB, 0, none⟩)]) rfl trivial (enters_of Tryz.func118 (by kernel_rfl) rfl)
    (puts_seq sB w.heap.size hn w1 (by have := Hd3.out; omega) H0.out.2.1 H0.out.2.2.1 H0.out.2.2.2) (fun h h' => h.trans h') (KpL.put (by have := Hd3.out; omega)) (Below.refl _ _) (fun _ => rfl)
    (PInv w l r (r + 2) w1.heap.size) (fun c (_ : List HR) W => c = Code.ret ∧ PEnd w l r w1.heap.size W) (PInv.own (by have := Hd3.out; omega) (by have := Hd3.out; omega) (by have := Hd3.out; omega))
    (PEnd.own (by have := Hd3.out; omega) (by have := Hd3.out; omega)) H0.out.1
    (fun d a' W => MemR d W ∧ a' = { tmps := #[.slice A n c, undef, .pointer (some ⟨r, 0, none⟩), .pointer (some ⟨r + 1, 0, none⟩), .pointer (some ⟨r + 1 + 1, 0, none⟩), .slice d.A d.n d.c, .int .i64 d.er, .slice A n c, .func (.func 118) #[] #[.pointer (some ⟨sB, 0, none⟩)], .slice d.A d.n d.c, .int .i64 d.er, undef, undef, undef, undef, undef, undef, undef], defers := [] })
    (fun _ _ _ _ _ _ h hi ho => ⟨h.1.put hi ho, h.2⟩) ?assign ?body ?done ?stop
  case assign =>
    intro lp pre d W hI hok
    gi_wp2
    exact ⟨KeepsFrom.refl _ _, KpL.refl _ _, hI, hok.2, by first | rfl | trivial⟩
  case body =>
    rintro lp pre d a' W hI ⟨hm, rfl⟩ ⟨_, hok, _⟩
    rcases hm with ⟨hR, h15, h0, hrd⟩ | ⟨hR, h2⟩
    · rw [h15, h0]
      obtain ⟨v, hv, hrow⟩ := hI.row
      have hc := hv.cell
      obtain ⟨b, off, hA, hbl, hcell⟩ := hrd.at_ (by omega)
      rw [hA] at hrd ⊢
      have hcs := hrd.cells
      have HI := Lib.hid (⟨hI, hR, hok, hcs⟩ : _ ∧ _ ∧ _ ∧ _)
      have Hlen := Lib.hid (show 15 * pre.length ≤ 15000000 by
        have h2 := (List.getElem?_eq_some_iff.1 hok).1
        have h3 := Hl.out.2.2
        omega)
      clear hI hR h15 h0 hok hcell hbl hcs hA
      gi_wp2_with (gi_at_builtin; refine hold ?_)
      refine unhold (wpListIn_append_own _ rfl _ _ 23 rfl w.heap.size 5 i0 (.int .u8 0) 1 1 Tryz.underlying23 hi hz0 hz1 hz2 rfl (by decide) _ _ _ rfl hrow ⟨b, off, none⟩ 15 d.c ((recL d.e).map (Value.int .u8)) rfl (by rw [List.length_map, recL_length]) HI.out.2.2.2 (fun u hu => by obtain ⟨x, _, rfl⟩ := List.mem_map.1 hu; rfl) (by have := Hlen.out; unfold maxLen; omega) (by have := Hlen.out; omega) HI.out.1.low.size ?_)
      intro v' w3 hown' hgrow _
      obtain ⟨A', c', rfl, _, _⟩ := own_rd (l := recsL (l.take pre.length) ++ recL d.e) (by rw [List.map_append]; exact hown')
      obtain ⟨hv1, hv2, hr2, hk2, hb2⟩ := box_appended hv (by decide) hrow HI.out.1.low.size (by have := Hd3.out; omega) hown' hgrow
      have hc1 := hv1.cell
      have hf1 := hv1.frozen
      have c0 : Boxed (w3.setCell ⟨r + 2, 0, none⟩ (.slice A' (15 * pre.length + 15) c')) r 23 (.slice none 0 0) := (HI.out.1.r0.kept hgrow (HI.out.1.r0.not_row (by decide) hrow)).other (by omega) _
      have c1 : Boxed (w3.setCell ⟨r + 2, 0, none⟩ (.slice A' (15 * pre.length + 15) c')) (r + 1) 25 (.int .i64 0) := (HI.out.1.r1.kept hgrow (HI.out.1.r1.not_row (by decide) hrow)).other (by omega) _
      have H3 := Lib.hid (⟨hv2, hr2, hk2, hb2, c0, c1⟩ : _ ∧ _ ∧ _ ∧ _ ∧ _ ∧ _)
      clear hv1 hv2 hr2 hk2 hb2 hgrow hown' hc hv hrow c0 c1
      gi_wp2_with fail
      obtain ⟨hI, hR, hok, _⟩ := HI.out
      obtain ⟨hv2, hr2, hk2, hb2, c0, c1⟩ := H3.out
      have hd := Hd3.out
      have hlen : (pre ++ [d]).length = pre.length + 1 := by simp
      refine ⟨hk2.from _, fun i hi => hb2.block i (by omega), ⟨⟨_, hv2, ?_⟩, ?_, c0, c1, hI.low.trans hb2, Nat.le_trans hI.size hk2.size⟩⟩
      · rw [hlen, take_succ hok, recsL_snoc, List.map_append, Nat.mul_succ]
        exact hr2
      · rw [hlen, take_succ hok]
        exact all_snoc_r.2 ⟨hI.all, hR⟩
    · rw [h2]
      have f0 := hI.r0.frozen
      have f1 := hI.r1.frozen
      have q0 := hI.r0.cell
      have q1 := hI.r1.cell
      have HI := Lib.hid (⟨hI, all_no hok hR⟩ : _ ∧ _)
      clear hI hR h2 hok
      gi_wp2_with fail
      obtain ⟨hI, hno⟩ := HI.out
      have hd := Hd3.out
      have g1 := set_grown W r (.slice none 0 0)
      have g2 := set_grown (W.setCell ⟨r, 0, none⟩ (.slice none 0 0)) (r + 1) (.int .i64 2)
      refine ⟨(KeepsFrom.of_grownBy g1 (fun k e => by cases e; omega)).trans (KeepsFrom.of_grownBy g2 (fun k e => by cases e; omega)), rfl, hno, ?_, ?_, (hI.low.setCell (by show w.heap.size ≤ r; omega) _).setCell (by show w.heap.size ≤ r + 1; omega) _, by have := g1.size; have := g2.size; have := hI.size; omega⟩
      · exact (hI.r0.set _).other (by omega) _
      · exact (hI.r1.other (by omega) _).set _
  case done =>
    rintro D ys W hD2 hlen hI hK
    have hfull : l.take ys.length = l := List.take_of_length_le (by omega)
    obtain ⟨v, hv, hrow⟩ := hI.row
    have hall := hI.all
    rw [hfull] at hrow hall
    rw [hlen] at hrow
    have f0 := hI.r0.frozen
    have f1 := hI.r1.frozen
    have q0 := hI.r0.cell
    have q1 := hI.r1.cell
    have hc := hv.cell
    obtain ⟨A', c', rfl, _, _⟩ := own_rd hrow
    have HI := Lib.hid (⟨hI, hall, hrow⟩ : _ ∧ _ ∧ _)
    have HK := Lib.hid (⟨hK, hD2⟩ : _ ∧ _)
    clear hI hK hD2 hall hrow hv hfull hlen
    gi_wp2_with fail
    obtain ⟨hI, hall, hrow⟩ := HI.out
    have hd := Hd3.out
    have g1 := set_grown W r (.slice A' (15 * l.length) c')
    have g2 := set_grown (W.setCell ⟨r, 0, none⟩ (.slice A' (15 * l.length) c')) (r + 1) (.int .i64 0)
    have b0 : Boxed ((W.setCell ⟨r, 0, none⟩ (.slice A' (15 * l.length) c')).setCell ⟨r + 1, 0, none⟩ (.int .i64 0)) r 23 (.slice A' (15 * l.length) c') := (hI.r0.set _).other (by omega) _
    have b1 : Boxed ((W.setCell ⟨r, 0, none⟩ (.slice A' (15 * l.length) c')).setCell ⟨r + 1, 0, none⟩ (.int .i64 0)) (r + 1) 25 (.int .i64 0) := (hI.r1.other (by omega) _).set _
    have hrow2 := (hrow.kept g1 (.inr (hI.r0.not_row (by decide) hrow).symm)).kept g2 (.inr (hI.r1.not_row (by decide) hrow).symm)
    have hlow : Below w.heap.size w ((W.setCell ⟨r, 0, none⟩ (.slice A' (15 * l.length) c')).setCell ⟨r + 1, 0, none⟩ (.int .i64 0)) := (hI.low.setCell (by show w.heap.size ≤ r; omega) _).setCell (by show w.heap.size ≤ r + 1; omega) _
    refine leaves_marks (B := w.heap.size) [D] _ ⟨by simp, fun d hd => ?_⟩ fun w' hw' => ⟨.tuple #[.slice A' (15 * l.length) c', .int .i64 0], ?_, Tel.some_ (putP_yes hall) (recsL_length l) (own_marks hrow2 hw') (hlow.trans hw'.1)⟩
    · obtain rfl : d = D := by simpa using hd
      have := HK.out.2
      have hlt := (Array.getElem?_eq_some_iff.1 HK.out.1).1
      exact ⟨by omega, ((g2.block d (by have := g1.size; omega) (by simp; omega)).trans (g1.block d hlt (by simp; omega))).trans HK.out.1⟩
    · have b0' : Boxed w' r 23 (.slice A' (15 * l.length) c') := hw'.2 _ _ b0 rfl
      have b1' : Boxed w' (r + 1) 25 (.int .i64 0) := hw'.2 _ _ b1 rfl
      have hc0 := b0'.cell
      have hc1 := b1'.cell
      clear hd b0 b1 b0' b1' g1 g2 hrow2 hlow q0 q1 f0 f1 hc hI hall hrow
      simp [results, Tryz.results111, go_sem, *]
  case stop =>
    rintro D cc pre W hD2 ⟨rfl, hI⟩ hK
    have HI := Lib.hid hI
    have HK := Lib.hid (⟨hK, hD2⟩ : _ ∧ _)
    clear hI hK hD2
    gi_wp2_with fail
    have hd := Hd3.out
    refine leaves_marks (B := w.heap.size) [D] _ ⟨by simp, fun d hd => ?_⟩ fun w' hw' => ⟨.tuple #[.slice none 0 0, .int .i64 2], ?_, Tel.none_ (putP_no HI.out.no) (HI.out.low.trans hw'.1)⟩
    · obtain rfl : d = D := by simpa using hd
      have := HK.out.2
      exact ⟨by omega, HK.out.1⟩
    · have b0' : Boxed w' r 23 (.slice none 0 0) := hw'.2 _ _ HI.out.r0 rfl
      have b1' : Boxed w' (r + 1) 25 (.int .i64 2) := hw'.2 _ _ HI.out.r1 rfl
      have hc0 := b0'.cell
      have hc1 := b1'.cell
      clear hd
      simp [results, Tryz.results111, go_sem, *]

theorem put_any [Inhabited Cr.Rows16] (A : Option Addr) (n c : Nat) (l : List EnP) (w : World) (hT : Cr.Tab w) (hl : Es w w.heap.size A n l) (hn : n ≤ 1000000) :
    Calls Tryz.prog 111 #[.slice A n c] w (Tel w (putP l)) := callsIn_wide.1 (put_in A n c l w hT hl hn)

end Go.Proofs.YtcpdjhkpmaamdaaGreat

namespace Go.Proofs.YtcpdjhkpmaamdaaGreat
open Go.RowKit
set_option linter.unusedVariables false

set_option maxRecDepth 100000 in
set_option maxHeartbeats 1000000 in
theorem file_any [Inhabited Cr.Rows16] (first : Int) (A : Option Addr) (n c : Nat) (l : List EnP) (w : World) (hT : Cr.Tab w) (hl : Es w w.heap.size A n l) (hn : n ≤ 1000000) :
    Calls Tryz.prog 110 #[.int .i64 first, .slice A n c] w (Tel w (fileP first l)) := by
  obtain ⟨i0, hi, hz0, hz1, hz2⟩ := info_parts Cr.info_u8
  have Hln := Lib.hid hl.len
  go_enter Tryz.func110, Tryz.ntmps110
  go_wp2_with fail
  refine (head_any first w).mono ?_
  rintro e w1 ⟨⟨A1, c1, rfl, hc1, own1⟩, hb1⟩
  by_cases hf : IdxP first
  · rw [headP_yes hf] at hc1 own1 ⊢
    have Hf := Lib.hid hf
    have H1 := Lib.hid (⟨own1, hb1⟩ : _ ∧ _)
    have hl1 := hl.on hb1 hb1.size
    have hT1 := hT.on hb1
    rw [headL_length]
    clear own1 hb1 hf hl
    go_wp2_with fail
    refine (put_any A n c l w1 hT1 hl1 hn).mono ?_
    rintro e w2 ⟨⟨A2, c2, rfl, hc2, own2⟩, hb2⟩
    by_cases ha : AllR l
    · rw [putP_yes ha] at hc2 own2 ⊢
      have own1' := own_keep H1.out.1 hb2
      have hr2 := Rd.of_own own2
      have hlo : ∀ g, (Value.slice A1 6 c1).ownBlock = some g → w.heap.size ≤ g ∧ g < w1.heap.size := fun g hg => by
        have h1 := H1.out.1
        rw [headL_length] at h1
        exact h1.lt g hg
      have hhi : ∀ g, (Value.slice A2 (recsL l).length c2).ownBlock = some g → w1.heap.size ≤ g := fun g hg => (own2.lt g hg).1
      rw [headL_length] at own1'
      dsimp only at own1' hr2 hhi ⊢
      rw [recsL_length, Hln.out] at hr2 hhi ⊢
      have H2 := Lib.hid (⟨ha, H1.out.2.trans (hb2.mono H1.out.2.size), hlo, hhi⟩ : _ ∧ _ ∧ _ ∧ _)
      clear ha hb2 own2 hlo hhi hl1 hc2
      go_wp2_with (at_builtin; refine hold ?_)
      refine unhold (Cr.wpList_append_rd (.tmp 25) (.tmp 26) 23 Tryz.underlying23 hi hz0 hz1 hz2 Cr.byte_cells own1' hr2 (by unfold maxLen; omega) (by omega) H2.out.2.1.size rfl rfl rfl rfl ?_)
      intro v3 w3 L3
      have hB3 : Below w.heap.size w w3 := L3.below H2.out.2.1 H2.out.2.1.size (fun g hg => (H2.out.2.2.1 g hg).1)
      have own3 := L3.1
      rw [← List.map_append] at own3
      obtain ⟨A3, c3, rfl, _, _⟩ := own_rd own3
      have H3 := Lib.hid (⟨own3, hB3⟩ : _ ∧ _)
      clear L3 own3 hB3 own1' hr2
      go_wp2_with fail
      go_ret2
      have e3 : fileP first l = (headL first ++ recsL l, 0) := if_pos ⟨Hf.out, H2.out.1⟩
      exact Tel.some_ e3 (by rw [List.length_append, headL_length, recsL_length, Hln.out]) H3.out.1 H3.out.2
    · rw [putP_no ha]
      have e3 : fileP first l = ([], 2) := if_neg (fun h => ha h.2)
      have H3 := Lib.hid (⟨e3, H1.out.2.trans (hb2.mono H1.out.2.size)⟩ : _ ∧ _)
      clear ha hb2 own2 e3 hl1 hc2
      go_wp2_with fail
      go_ret2
      exact Tel.none_ H3.out.1 H3.out.2
  · rw [headP_no hf]
    have e3 : fileP first l = ([], 2) := if_neg (fun h => hf h.1)
    have H3 := Lib.hid (⟨e3, hb1⟩ : _ ∧ _)
    clear hf e3 hb1 own1 hl
    go_wp2_with fail
    go_ret2
    exact Tel.none_ H3.out.1 H3.out.2

end Go.Proofs.YtcpdjhkpmaamdaaGreat

namespace Go.Proofs.YtcpdjhkpmaamdaaGreat
open Go.RowKit Go.Shelf
set_option linter.unusedVariables false

attribute [local go_sem] Oper.semAt_some

theorem cut_tail {P : Program} {t e : TypeId} {i : TypeInfo} (ht : P.underlying t = some (.slice e)) (hi : P.info? e = some i) (h1 : i.size = 1) (A : Option Addr) (n c k : Nat) (hk : k ≤ n) (hnc : n ≤ c) :
    ∃ A' c', (∀ W : World, (Instr.slice t (.slice A n c) (some (.int .i64 (k : Int))) none none).run P W = .ok (.slice A' (n - k) c') W) ∧ n - k ≤ c' ∧ ∀ {w : World} {B : Nat} {kd : IntKind} {l : List Int}, Rd w B kd A n l → Rd w B kd A' (n - k) (l.drop k) := by
  have he : P.elem t = e := by simp [Program.elem, ht]
  have hu : P.underlying t = some (.slice (P.elem t)) := by rw [he]; exact ht
  refine ⟨if c = k then A else A.map (·.add k), c - k, fun W => ?_, by omega, fun h => h.cut hk hnc⟩
  rw [run_slice_l W t A n c hu .i64 (k : Int) (by omega) (by omega), he]
  simp [sizeOf, run_typeInfo, hi, h1, sliced, go_sem]

/-- What a round must leave alone: what lies below B0; the iterator's box. -/
def KpB (B0 sB : Nat) (A A' : World) : Prop := (∀ k, k < B0 → A'.heap[k]? = A.heap[k]?) ∧ A'.heap[sB]? = A.heap[sB]? ∧ A.heap.size ≤ A'.heap.size
theorem KpB.refl (B0 sB : Nat) (A : World) : KpB B0 sB A A := ⟨fun _ _ => rfl, rfl, Nat.le_refl _⟩
theorem KpB.trans {B0 sB : Nat} {A A' A'' : World} (h : KpB B0 sB A A') (h' : KpB B0 sB A' A'') : KpB B0 sB A A'' := ⟨fun k hk => (h'.1 k hk).trans (h.1 k hk), h'.2.1.trans h.2.1, Nat.le_trans h.2.2 h'.2.2⟩
theorem KpB.below {B0 sB : Nat} {A A' : World} (h : Below A.heap.size A A') (hB : B0 ≤ A.heap.size) (hs : sB < A.heap.size) : KpB B0 sB A A' := ⟨fun k hk => h.block k (by omega), h.block sB hs, h.size⟩
theorem KpB.put {B0 sB D : Nat} (hB : B0 ≤ D) (hs : sB < D) (W : World) (l : Nat) (o o' : Obj) (hl : D ≤ l) (_ : W.heap[l]? = some o) (_ : o.isCells = false) (_ : o.isWalk = false) : KpB B0 sB W (W.putObj l o') :=
  ⟨fun k hk => World.putObj_heap_other (by omega), World.putObj_heap_other (by omega), by have := (grownBy_putObj' W l o').size; omega⟩

/-- An entry, as it is handed over. -/
abbrev encN (e : EnP) : Array Value := #[.agg #[.int .i64 e.tm, .int .i64 e.kd, .int .i64 e.vl]]
/-- What is told of it. -/
def OkN [Inhabited Cr.Rows16] (b : List Int) (pre : List EnP) (x : EnP) (_ : World) : Prop := scanL b = pre ++ scanL (b.drop (15 * pre.length)) ∧ recOf (b.drop (15 * pre.length)) = some x
theorem scan_next [Inhabited Cr.Rows16] {b : List Int} {pre : List EnP} {x : EnP} (h : scanL b = pre ++ scanL (b.drop (15 * pre.length))) (hx : recOf (b.drop (15 * pre.length)) = some x) : scanL b = (pre ++ [x]) ++ scanL (b.drop (15 * (pre ++ [x]).length)) := by
  have e : (b.drop (15 * pre.length)).drop 15 = b.drop (15 * (pre ++ [x]).length) := by rw [List.drop_drop, List.length_append]; rfl
  rw [h, scanL_some hx, e, List.append_assoc]
  rfl
theorem scan_end [Inhabited Cr.Rows16] {b : List Int} {pre : List EnP} (h : scanL b = pre ++ scanL (b.drop (15 * pre.length))) (hx : recOf (b.drop (15 * pre.length)) = none) : pre = scanL b := by
  rw [h, scanL_none hx, List.append_nil]
theorem scan_room [Inhabited Cr.Rows16] {b : List Int} {pre : List EnP} (h : scanL b = pre ++ scanL (b.drop (15 * pre.length))) : 15 * pre.length ≤ b.length := by
  have h1 := scanL_length b
  rw [h, List.length_append] at h1
  omega

/-- What holds at the label. -/
def NJ [Inhabited Cr.Rows16] (W : World) (b : List Int) (A : Option Addr) (n c sB B0 : Nat) (J : List EnP → World → Prop) (l0 : Nat) (a' : Act) (w : World) : Prop :=
  ∃ (pre : List EnP) (q : Nat) (u4 u5 u6 u7 u8 u9 u10 u11 u12 u13 u14 u15 u16 u17 u18 u19 : Value), q = 15 * pre.length ∧ scanL b = pre ++ scanL (b.drop (15 * pre.length)) ∧ J pre w ∧ KpB B0 sB W w ∧
    a' = { tmps := #[.func (.yield l0) #[] #[], .pointer (some ⟨sB, 0, none⟩), undef, .int .i64 (q : Int), u4, u5, u6, u7, u8, u9, u10, u11, u12, u13, u14, u15, u16, u17, u18, u19], defers := [] }

set_option maxRecDepth 100000 in
set_option maxHeartbeats 2000000 in
theorem entries_in [Inhabited Cr.Rows16] (l0 sB B0 : Nat) {A : Option Addr} {n c : Nat} {b : List Int} (hn : n ≤ 1000000000) (J Jx : List EnP → World → Prop) (W : World) (hJ : StaysT 9 W.heap.size J)
    (hY : ∀ pre x W1, J pre W1 → OkN b pre x W1 → YieldAt Fence.wide 2 Tryz.prog l0 (encN x) W1 fun e W' =>
      (e = .returned (.bool true) ∧ J (pre ++ [x]) W' ∧ KpB B0 sB W1 W') ∨ (e = .returned (.bool false) ∧ Jx (pre ++ [x]) W'))
    (hs : Boxed W sB 23 (.slice A n c)) (hr : Rd W B0 .u8 A n b) (hb : Byt b) (hnc : n ≤ c) (hT : 0 < B0 ∧ Cr.Tab W) (hB0 : B0 ≤ W.heap.size) (h0 : J [] W) :
    CallsIn Fence.wide 3 Tryz.prog 121 #[.func (.yield l0) #[] #[], .pointer (some ⟨sB, 0, none⟩)] W fun e W' => (∃ v, e = .returned v) ∧
      ((∃ ys, ys = scanL b ∧ J ys W') ∨ (∃ pre, Jx pre W')) := by
  obtain ⟨i0, hi, hz0, hz1, hz2⟩ := info_parts Cr.info_u8
  have Hl := Lib.hid hr.1
  have HG := Lib.hid (⟨hs, hr, hT, hB0, hb⟩ : _ ∧ _ ∧ _ ∧ _ ∧ _)
  have HJ := Lib.hid hJ
  have HY := Lib.hid hY
  clear hr hB0 hJ hY hT hs hb
  refine callsIn_of_wp Tryz.func121 rfl trivial ?_ rfl
  simp only [Tryz.ntmps121, List.size_toArray, List.length_cons, List.length_nil, Nat.reduceAdd, Nat.reduceSub, Array.replicate_succ, Array.replicate_zero, List.push_toArray, List.append_toArray, List.nil_append, List.cons_append]
  refine scope_once 0 (NJ W b A n c sB B0 J l0) (fun a' _ => n + 15 - (intOf (a'.tmps.getD 3 undef)).toNat) rfl ?_ ?_
  · intro hrest
    gi_wp2_with fail
    refine wpIn_label ?_
    rename_i hK
    exact hK _ _ (hrest _ _ ⟨[], 0, _, _, _, _, _, _, _, _, _, _, _, _, _, _, _, _, rfl, by simp, h0, KpB.refl _ _ _, rfl⟩)
  · rintro a' wr ⟨pre, q, u4, u5, u6, u7, u8, u9, u10, u11, u12, u13, u14, u15, u16, u17, u18, u19, hq, hsc, hj, hkp, rfl⟩
    have hroom := scan_room hsc
    rw [Hl.out, ← hq] at hroom
    have hlc : wr.cell? ⟨sB, 0, none⟩ = some (.slice A n c) := (show Boxed wr sB 23 (.slice A n c) from hkp.2.1.trans HG.out.1).cell
    obtain ⟨A', c', hrun, hc', hcut⟩ := cut_tail Tryz.underlying23 hi hz1 A n c q hroom hnc
    have hrd : Rd wr B0 .u8 A n b := ⟨HG.out.2.1.1, fun h => by
      obtain ⟨b', o', e, hlt, hcc⟩ := HG.out.2.1.2 h
      exact ⟨b', o', e, hlt, fun i hi => (World.cell?_of_block (a := ⟨b', o' + i, none⟩) (hkp.1 b' hlt)).trans (hcc i hi)⟩⟩
    have hB0 : B0 ≤ wr.heap.size := Nat.le_trans HG.out.2.2.2.1 hkp.2.2
    have hTr : Cr.Tab wr := tab_low HG.out.2.2.1.2 HG.out.2.2.1.1 HG.out.2.2.2.1 hkp.1
    have hcr := (hcut hrd).more hB0
    have hw1 : IntKind.i64.wrap ((q : Int) + 15) = ((q + 15 : Nat) : Int) := by rw [IntKind.wrap_i64]; omega
    have HI := Lib.hid (⟨hq, hsc, hj, hkp, hB0⟩ : _ ∧ _ ∧ _ ∧ _ ∧ _)
    clear hq hsc hj hkp hB0 hcut hrd h0
    gi_wp2_with fail
    refine ⟨trivial, ?_⟩
    refine (callsIn_wide.2 (recordOf_any A' (n - q) c' (b.drop q) wr hTr hcr (HG.out.2.2.2.2.drop q) hc')).mono ?_
    rintro e w1 ⟨rfl, hb1⟩
    obtain ⟨hq, hsc, hj, hkp, hB0⟩ := HI.out
    have hsB : sB < wr.heap.size := Nat.lt_of_lt_of_le HG.out.1.lt hkp.2.2
    cases hx : recOf (b.drop q) with
    | none =>
      have hv : recV (b.drop q) = .tuple #[.agg #[.int .i64 0, .int .i64 0, .int .i64 0], .bool false] := by unfold recV; rw [hx]; rfl
      rw [hv]
      have hj1 : J pre (w1.alloc (.cells #[.int .i64 0, .int .i64 0, .int .i64 0] 41)) := HJ.out _ _ _ none (HJ.out _ wr w1 none hj (grown_of hb1) (fun r e => by cases e)) (World.grownBy_alloc _ _ none) (fun r e => by cases e)
      rw [hq] at hx
      have HF := Lib.hid (⟨hj1, scan_end hsc hx⟩ : _ ∧ _)
      clear hq hsc hj hkp hB0 hx hv hj1 hb1 hlc hrun hcr hTr
      gi_wp2_with fail
      simp only [Exit.jump]
      refine bodyPost_ret (results_none rfl _ _ _) rfl ?_
      exact ⟨⟨_, rfl⟩, .inl (by first | exact ⟨pre, HF.out.2, HF.out.1⟩ | (rw [← HF.out.2]; exact HF.out.1))⟩
    | some x =>
      have hv : recV (b.drop q) = .tuple #[.agg #[.int .i64 x.tm, .int .i64 x.kd, .int .i64 x.vl], .bool true] := by unfold recV; rw [hx]; rfl
      rw [hv]
      obtain ⟨w2, hw2⟩ : ∃ w2, w2 = w1.alloc (.cells #[.int .i64 x.tm, .int .i64 x.kd, .int .i64 x.vl] 41) := ⟨_, rfl⟩
      have hb2 : Below wr.heap.size wr w2 := hb1.trans (by rw [hw2]; exact ((Below.refl _ w1).alloc (Nat.le_refl _) _).mono hb1.size)
      have bx2 : BoxE w2 w1.heap.size x := by rw [hw2]; exact BoxE.new w1 x
      have hj2 : J pre w2 := HJ.out _ wr w2 none hj (grown_of hb2) (fun r e => by cases e)
      rw [hq] at hx
      obtain ⟨fn, tmps, assign, body, hy, hR⟩ := HY.out pre x w2 hj2 ⟨hsc, hx⟩
      obtain ⟨k0, k1, k2⟩ := bx2.cells
      have H3 := Lib.hid (⟨hkp.trans (KpB.below hb2 hB0 hsB), hq, scan_next hsc hx, hw2⟩ : _ ∧ _ ∧ _ ∧ _)
      dsimp only [encN] at hy
      rw [hw2] at k0 k1 k2 hy
      have Hroom := Lib.hid (show q + 15 ≤ n by
        have h1 := recOf_len hx
        rw [List.length_drop, Hl.out] at h1
        omega)
      clear hq hsc hj hkp hB0 hx hv hj2 hb1 hb2 bx2 hlc hrun hcr hTr hsB
      gi_wp2_with fail
      rw [← H3.out.2.2.2]
      refine hR.mono ?_
      rintro e' W3 (⟨rfl, hJ3, hk3⟩ | ⟨rfl, hJx3⟩)
      · have H4 := Lib.hid (⟨hJ3, H3.out.1.trans hk3⟩ : _ ∧ _)
        clear hJ3 hk3 k0 k1 k2
        gi_wp2_with fail
        refine wpIn_goto ?_
        refine ⟨rfl, ⟨pre ++ [x], q + 15, _, _, _, _, _, _, _, _, _, _, _, _, _, _, _, _, by rw [List.length_append, H3.out.2.1]; simp; omega, H3.out.2.2.1, H4.out.1, H4.out.2, rfl⟩, ?_⟩
        have := Hroom.out
        simp [intOf]
        omega
      · have H4 := Lib.hid hJx3
        clear hJx3 k0 k1 k2
        gi_wp2_with fail
        simp only [Exit.jump]
        go_end0
        exact ⟨⟨_, rfl⟩, .inr ⟨_, H4.out⟩⟩

/-- The iterator's contract. -/
theorem entries_seq [Inhabited Cr.Rows16] (sB B0 : Nat) {A : Option Addr} {n c : Nat} {b : List Int} (hn : n ≤ 1000000000) (w : World) (hB : B0 ≤ w.heap.size) (hs : Boxed w sB 23 (.slice A n c)) (hr : Rd w B0 .u8 A n b) (hb : Byt b) (hnc : n ≤ c) (hT : 0 < B0 ∧ Cr.Tab w) :
    SeqW 9 Fence.wide 3 Tryz.prog 121 #[.pointer (some ⟨sB, 0, none⟩)] encN (KpB B0 sB) (fun ys => ys = scanL b) (OkN b) w := fun l0 J Jx W hW hJ _ hY h0 =>
  entries_in l0 sB B0 hn J Jx W hJ hY ((hW.block sB hs.lt).trans hs) ⟨hr.1, fun h => by
      obtain ⟨b', o', e, hlt, hcc⟩ := hr.2 h
      exact ⟨b', o', e, hlt, fun i hi => (World.cell?_of_block (a := ⟨b', o' + i, none⟩) (hW.block b' (by omega))).trans (hcc i hi)⟩⟩ hb hnc ⟨hT.1, hT.2.on hW⟩ (Nat.le_trans hB hW.size) h0

/-- What entries answers. -/
def EntsOut (A : Option Addr) (n c : Nat) (w : World) (e : Ending) (w' : World) : Prop :=
  e = .returned (.func (.func 121) #[] #[.pointer (some ⟨w.heap.size, 0, none⟩)]) ∧ Boxed w' w.heap.size 23 (.slice A n c) ∧ w'.heap.size = w.heap.size + 1 ∧ Below w.heap.size w w'
set_option maxRecDepth 100000 in
set_option maxHeartbeats 400000 in
theorem entries_any (A : Option Addr) (n c : Nat) (w : World) : Calls Tryz.prog 116 #[.slice A n c] w (EntsOut A n c w) := by
  go_enter Tryz.func116, Tryz.ntmps116
  go_wp2
  go_ret
  exact ⟨rfl, Boxed.new w _ _, by simp, (Below.refl _ w).alloc (Nat.le_refl _) _⟩

end Go.Proofs.YtcpdjhkpmaamdaaGreat

namespace Go.Proofs.YtcpdjhkpmaamdaaGreat
open Go.RowKit Go.Shelf
set_option linter.unusedVariables false

attribute [local go_sem] Oper.semAt_some

/-- Box z holds what is told of a scan. -/
def BoxC (W : World) (z : Nat) (f : Int) (v : Value) (u : Int) : Prop := W.heap[z]? = some (.cells #[.int .i64 f, v, .int .i64 u] 29 (0, 0))
section
variable {W W' : World} {z : Nat} {f u : Int} {v : Value}
theorem BoxC.cells (h : BoxC W z f v u) : W.cell? ⟨z, 0, none⟩ = some (.int .i64 f) ∧ W.cell? ⟨z, 1, none⟩ = some v ∧ W.cell? ⟨z, 2, none⟩ = some (.int .i64 u) := by
  refine ⟨?_, ?_, ?_⟩ <;> (rw [cell_of_row _ _ _ _ _ _ h]; simp)
theorem BoxC.frozen (h : BoxC W z f v u) (i : Nat) : W.frozen? ⟨z, i, none⟩ = false := by
  simp [World.frozen?, show W.heap[z]? = _ from h]
theorem BoxC.lt (h : BoxC W z f v u) : z < W.heap.size := (Array.getElem?_eq_some_iff.1 h).1
theorem BoxC.below (h : BoxC W z f v u) (hb : Below W.heap.size W W') : BoxC W' z f v u := (hb.block z h.lt).trans h
theorem BoxC.new (w : World) (f u : Int) (v : Value) : BoxC (w.alloc (.cells #[.int .i64 f, v, .int .i64 u] 29)) w.heap.size f v u := World.alloc_heap_new w _
theorem BoxC.s0 (h : BoxC W z f v u) (x : Int) : BoxC (W.setCell ⟨z, 0, none⟩ (.int .i64 x)) z x v u := heap_set h _
theorem BoxC.s1 (h : BoxC W z f v u) (x : Value) : BoxC (W.setCell ⟨z, 1, none⟩ x) z f x u := heap_set h _
theorem BoxC.s2 (h : BoxC W z f v u) (x : Int) : BoxC (W.setCell ⟨z, 2, none⟩ (.int .i64 x)) z f v x := heap_set h _
theorem BoxC.other {y : Nat} (h : BoxC W z f v u) (hne : z ≠ y) (i : Nat) (x : Value) : BoxC (W.setCell ⟨y, i, none⟩ x) z f v u := (Below.heap_setCell _ _ _ z (by simpa using hne)).trans h
end
theorem box_not_row {W : World} {z : Nat} {cs : Array Value} {t e : TypeId} {fr : Nat × Nat} (h : W.heap[z]? = some (.cells cs t fr)) (hte : t ≠ e) {base size k : Nat} {v : Value} {xs : List Value} (hr : W.ownsRow base e size v k xs) : some z ≠ v.ownBlock := by
  rcases hr.2 with ⟨rfl, _⟩ | ⟨g, cap, cur, rfl, _, hg, _⟩
  · simp [Value.ownBlock]
  · intro e1
    obtain rfl : z = g := by simpa [Value.ownBlock] using e1
    rw [h] at hg
    injection hg with hg
    injection hg with _ h2 _
    exact hte h2
theorem setCell_grown (W : World) (b i : Nat) (v : Value) : W.grownBy (W.setCell ⟨b, i, none⟩ v) (some b) := by
  have h := (Below.refl 0 W).setCell (p := ⟨b, i, none⟩) (Nat.zero_le _) v
  exact ⟨h.os, h.tape, h.output, h.size, fun k _ hk => Below.heap_setCell _ _ _ k (by simpa using fun e => hk (by rw [e]))⟩
theorem setCell_keeps (W : World) (b i : Nat) (v : Value) : KeepsOthers W (W.setCell ⟨b, i, none⟩ v) := KeepsOthers.setCell _ _ _
/-- 's.Log = append(s.Log, x); s.Used += ..': what lies behind. -/
theorem scan_step {W w3 : World} {n₀ z : Nat} {f u u' : Int} {v v' : Value} {k m : Nat} {xs ys : List Value} {tmp : Obj}
    (hb : BoxC W z f v u) (hrow : W.ownsRow n₀ 41 3 v k xs) (hn₀ : n₀ ≤ W.heap.size) (hz : n₀ ≤ z)
    (hown : w3.ownsRow n₀ 41 3 v' m ys) (hgrow : (W.alloc tmp).grownBy w3 v.ownBlock) :
    BoxC w3 z f v u ∧ BoxC ((w3.setCell ⟨z, 1, none⟩ v').setCell ⟨z, 2, none⟩ (.int .i64 u')) z f v' u' ∧ ((w3.setCell ⟨z, 1, none⟩ v').setCell ⟨z, 2, none⟩ (.int .i64 u')).ownsRow n₀ 41 3 v' m ys ∧
    KeepsOthers W ((w3.setCell ⟨z, 1, none⟩ v').setCell ⟨z, 2, none⟩ (.int .i64 u')) ∧ Below n₀ W ((w3.setCell ⟨z, 1, none⟩ v').setCell ⟨z, 2, none⟩ (.int .i64 u')) ∧
    ∀ (b : Nat) cs t fr, b ≠ z → t ≠ 41 → W.heap[b]? = some (.cells cs t fr) → ((w3.setCell ⟨z, 1, none⟩ v').setCell ⟨z, 2, none⟩ (.int .i64 u')).heap[b]? = some (.cells cs t fr) := by
  have key : ∀ (b : Nat) cs t fr, t ≠ 41 → W.heap[b]? = some (.cells cs t fr) → w3.heap[b]? = some (.cells cs t fr) := fun b cs t fr ht hb' => by
    have hlt := (Array.getElem?_eq_some_iff.1 hb').1
    exact (hgrow.block b (by simp; omega) (box_not_row hb' ht hrow)).trans ((Below.heap_alloc W tmp b hlt).trans hb')
  have hb3 : BoxC w3 z f v u := key z _ _ _ (by decide) hb
  have hrow3 := hown.kept (setCell_grown w3 z 1 v') (.inr (box_not_row hb3 (by decide) hown).symm)
  have hb4 := hb3.s1 v'
  refine ⟨hb3, hb4.s2 u', hrow3.kept (setCell_grown _ z 2 _) (.inr (box_not_row hb4 (by decide) hrow3).symm), ?_, ?_, fun b cs t fr hbz ht h => ?_⟩
  · refine (((KeepsOthers.alloc W tmp).trans (KeepsOthers.of_grownBy hgrow fun j o ej hj => ?_)).trans (setCell_keeps _ z 1 v')).trans (setCell_keeps _ z 2 _)
    rcases (hrow.alloc tmp).2 with ⟨rfl, _⟩ | ⟨g, cap, cur, rfl, _, hgb, _⟩
    · simp [Value.ownBlock] at ej
    · obtain rfl : g = j := by simpa [Value.ownBlock] using ej
      rw [hgb] at hj; cases hj; rfl
  · refine ((((Below.refl n₀ W).alloc hn₀ tmp).grown hgrow (by simp; omega) fun j ej => ?_).setCell (p := ⟨z, 1, none⟩) hz v').setCell (p := ⟨z, 2, none⟩) hz _
    rcases hrow.2 with ⟨rfl, _⟩ | ⟨g, cap, cur, rfl, hb', _, _⟩
    · simp [Value.ownBlock] at ej
    · obtain rfl : g = j := by simpa [Value.ownBlock] using ej
      exact hb'
  · exact (Below.heap_setCell _ _ _ b (by simpa using hbz)).trans ((Below.heap_setCell _ _ _ b (by simpa using hbz)).trans (key b cs t fr ht h))
theorem cell_three_new (W : World) (a b c : Value) (t : TypeId) : ∀ j u, ([a, b, c] : List Value)[j]? = some u → (W.alloc (.cells #[a, b, c] t)).cell? ((⟨W.heap.size, 0, none⟩ : Addr).add j) = some u := by
  intro j u hj
  rw [add_plain', Nat.zero_add, cell_of_row _ _ _ _ _ _ (World.alloc_heap_new W _)]
  simpa using hj

/-- What Scan answers. -/
def ScanT (w : World) (R : Int × List EnP × Int × Int) (e : Ending) (w' : World) : Prop :=
  (∃ A c, e = .returned (.tuple #[.agg #[.int .i64 R.1, .slice A R.2.1.length c, .int .i64 R.2.2.1], .int .i64 R.2.2.2]) ∧ R.2.1.length ≤ c ∧ Es w' w'.heap.size A R.2.1.length R.2.1) ∧ Below w.heap.size w w'

/-- Between two rounds. -/
structure CInv (w : World) (f : Int) (r z sB D : Nat) (vs : Value) (pre : List EnP) (W : World) : Prop where
  bz : ∃ v, BoxC W z f v (6 + 15 * (pre.length : Int)) ∧ W.ownsRow w.heap.size 41 3 v pre.length (pre.flatMap EnP.cs)
  br : BoxC W r 0 (.slice none 0 0) 0
  bs : Boxed W sB 23 vs
  low : Below w.heap.size w W
  size : D ≤ W.heap.size
theorem CInv.own {w : World} {f : Int} {r z sB D : Nat} {vs : Value} (hz : z < D) (hr : r < D) (hs : sB < D) (hw : w.heap.size ≤ D) : OwnT 9 D (CInv w f r z sB D vs) := fun _ W W' row h hg hr' => by
  obtain ⟨⟨v, hv, hrow⟩, h0, h2, hlow, hsz⟩ := h
  have hne : ∀ k, k < D → some k ≠ row := fun k hk e => by have := (hr' k e.symm).1; omega
  refine ⟨⟨v, (hg.block z hv.lt (hne z hz)).trans hv, hrow.kept hg (row_ne (by decide) hrow fun r e => (hr' r e).2)⟩, (hg.block r h0.lt (hne r hr)).trans h0, (hg.block sB h2.lt (hne sB hs)).trans h2, ?_, Nat.le_trans hsz hg.size⟩
  exact hlow.grown hg hlow.size (fun k e => by have := (hr' k e).1; omega)
/-- The loop's variable. -/
def CVar (D : Nat) (mk : Nat → EnP → Act) (x : EnP) (a' : Act) (W : World) : Prop := ∃ bx, BoxE W bx x ∧ D ≤ bx ∧ a' = mk bx x
theorem CVar.put {D : Nat} {mk : Nat → EnP → Act} (x : EnP) (a' : Act) (W : World) (l : Nat) (o o' : Obj) (h : CVar D mk x a' W) (hl : W.heap[l]? = some o) (ho : o.isCells = false) : CVar D mk x a' (W.putObj l o') := by
  obtain ⟨bx, hb, hD, e⟩ := h
  refine ⟨bx, (World.putObj_heap_other (fun e => ?_)).trans hb, hD, e⟩
  subst e
  rw [show W.heap[bx]? = _ from hb] at hl
  cases hl
  cases ho
theorem info_entry : (Tryz.prog.info? 41).map (fun i => (i.zero, i.size, i.bytes)) = some (some (.agg #[.int .i64 0, .int .i64 0, .int .i64 0]), 3, 24) := by kernel_rfl

set_option maxRecDepth 100000 in
set_option maxHeartbeats 2000000 in
theorem scan_in [Inhabited Cr.Rows16] (A : Option Addr) (n c : Nat) (l : List Int) (w : World) (hT : Cr.Tab w) (hr : Rd w w.heap.size .u8 A n l) (hb : Byt l) (hnc : n ≤ c) (hn : n ≤ 1000000000) :
    CallsIn Fence.wide 4 Tryz.prog 112 #[.slice A n c] w (ScanT w (scanP l)) := by
  obtain ⟨i0, hi, hz0, hz1, hz2⟩ := info_parts Cr.info_u8
  obtain ⟨j0, hj, hy0, hy1, hy2⟩ := info_partsV info_entry
  have Hl := Lib.hid (⟨hr, hT, hb, hr.1⟩ : _ ∧ _ ∧ _ ∧ _)
  clear hr hT hb
  refine callsIn_of_wp_marks Tryz.func112 rfl trivial ?_ rfl
  simp only [Tryz.ntmps112, List.size_toArray, List.length_cons, List.length_nil, Nat.reduceAdd, Nat.reduceSub, Array.replicate_succ, Array.replicate_zero, List.push_toArray, List.append_toArray, List.nil_append, List.cons_append]
  gi_wp2_with fail
  refine ⟨trivial, ?_⟩
  obtain ⟨r, hr⟩ : ∃ r, r = w.heap.size := ⟨_, rfl⟩
  obtain ⟨w0, hw0⟩ : ∃ w0, w0 = w.alloc (.cells #[.int .i64 0, .slice none 0 0, .int .i64 0] 29) := ⟨_, rfl⟩
  have hB0 : Below w.heap.size w w0 := by rw [hw0]; exact below_al (below_d0 w) _
  have b0 : BoxC w0 r 0 (.slice none 0 0) 0 := by rw [hw0, hr]; exact BoxC.new _ _ _ _
  rw [← hw0, ← hr]
  have Hr := Lib.hid (show w.heap.size ≤ r ∧ r = w.heap.size by omega)
  clear hw0 hr
  refine (callsIn_wide.2 (headOf_any A n c l w0 (Hl.out.1.on hB0 hB0.size) Hl.out.2.2.1 hnc)).mono ?_
  rintro e w1 ⟨rfl, hb1⟩
  have b1 := b0.below hb1
  have hB1 := hB0.trans (hb1.mono hB0.size)
  cases hh : headO l with
  | none =>
    have hv : headV l = .tuple #[.int .i64 0, .bool false] := by unfold headV; rw [hh]; rfl
    rw [hv]
    obtain ⟨d0, d1, d2⟩ := b1.cells
    have f0 := b1.frozen 0
    have f1 := b1.frozen 1
    have f2 := b1.frozen 2
    have H := Lib.hid (⟨b1, hB1, scanP_none hh⟩ : _ ∧ _ ∧ _)
    clear hv hh b0 hB0 hb1 b1 hB1
    gi_wp2_with fail
    have hz := Hr.out.1
    have b3 := ((H.out.1.s0 0).s1 (.slice none 0 0)).s2 0
    have hB3 := ((H.out.2.1.setCell (p := ⟨r, 0, none⟩) hz (.int .i64 0)).setCell (p := ⟨r, 1, none⟩) hz (.slice none 0 0)).setCell (p := ⟨r, 2, none⟩) hz (.int .i64 0)
    refine leaves_marks (B := w.heap.size) [] _ ⟨List.nodup_nil, fun d hd => by cases hd⟩ fun w' hw' => ⟨.tuple #[.agg #[.int .i64 0, .slice none 0 0, .int .i64 0], .int .i64 11], ?_, ?_⟩
    · have b4 : BoxC w' r 0 (.slice none 0 0) 0 := hw'.2 _ _ b3 rfl
      obtain ⟨d0, d1, d2⟩ := b4.cells
      simp [results, Tryz.results112, go_sem, *]
    · rw [H.out.2.2]
      exact ⟨⟨none, 0, rfl, Nat.le_refl _, Row.nil⟩, hB3.trans hw'.1⟩
  | some f =>
    have hv : headV l = .tuple #[.int .i64 f, .bool true] := by unfold headV; rw [hh]; rfl
    rw [hv]
    have h6 : 6 ≤ n := by have := (headO_inv Hl.out.2.2.1 hh).2.2; rw [Hl.out.2.2.2] at this; exact this
    obtain ⟨z, hz⟩ : ∃ z, z = w1.heap.size := ⟨_, rfl⟩
    obtain ⟨w2, hw2⟩ : ∃ w2, w2 = w1.alloc (.cells #[.int .i64 f, .slice none 0 0, .int .i64 6] 29) := ⟨_, rfl⟩
    have hB2 : Below w.heap.size w w2 := by rw [hw2]; exact hB1.alloc hB1.size _
    have bz2 : BoxC w2 z f (.slice none 0 0) 6 := by rw [hw2, hz]; exact BoxC.new _ _ _ _
    have br2 : BoxC w2 r 0 (.slice none 0 0) 0 := b1.below (by rw [hw2]; exact (Below.refl _ _).alloc (Nat.le_refl _) _)
    have hs2 : w2.heap.size = z + 1 := by rw [hw2, hz]; simp
    have hrz : r < z := by rw [hz]; exact b1.lt
    obtain ⟨A', c', hrun, hc', hcut⟩ := cut_tail Tryz.underlying23 hi hz1 A n c 6 h6 hnc
    have hrun6 : ∀ W : World, (Instr.slice 23 (.slice A n c) (some (.int .i64 6)) none none).run Tryz.prog W = .ok (.slice A' (n - 6) c') W := hrun
    obtain ⟨m, hm⟩ : ∃ m, m = n - 6 := ⟨_, rfl⟩
    rw [← hm] at hrun6 hc'
    have H2 := Lib.hid (⟨hB2, bz2, br2, hs2, hrz, hw2, hz, hm, h6⟩ : _ ∧ _ ∧ _ ∧ _ ∧ _ ∧ _ ∧ _ ∧ _ ∧ _)
    have Hcut := Lib.hid (show Rd w w.heap.size .u8 A' m (l.drop 6) from by rw [hm]; exact hcut Hl.out.1)
    have HS := Lib.hid (scanP_some hh)
    clear hv hh b0 hB0 hb1 b1 hB1 hB2 bz2 br2 hs2 hrz hz hm hcut hrun h6
    gi_wp2_with fail
    rw [← hw2, ← H2.out.2.2.2.2.2.2.1]
    clear hw2
    refine ⟨trivial, ?_⟩
    refine (callsIn_wide.2 (entries_any A' m c' w2)).mono ?_
    rintro e w3 ⟨rfl, hl3, hs3, hb3⟩
    obtain ⟨hB2, bz2, br2, hs2, hrz, -, -, hm, h6⟩ := H2.out
    obtain ⟨sB, hsB⟩ : ∃ sB, sB = w2.heap.size := ⟨_, rfl⟩
    rw [← hsB] at hl3 ⊢
    have hd := Hr.out
    have h0 : CInv w f r z sB w3.heap.size (.slice A' m c') [] w3 := ⟨⟨_, bz2.below hb3, World.ownsRow_nil _ _ _ _⟩, br2.below hb3, hl3, hB2.trans (hb3.mono hB2.size), Nat.le_refl _⟩
    have Hd3 := Lib.hid (show w.heap.size ≤ r ∧ r < z ∧ sB = z + 1 ∧ w3.heap.size = sB + 1 by omega)
    have hT3 : 0 < w.heap.size ∧ Cr.Tab w3 := ⟨Hl.out.2.1.1, Hl.out.2.1.on h0.low⟩
    have hr3 : Rd w3 w.heap.size .u8 A' m (l.drop 6) := Hcut.out.below h0.low
    have H0 := Lib.hid (⟨h0, hl3, hr3, hT3⟩ : _ ∧ _ ∧ _ ∧ _)
    have Hlen := Lib.hid (show 15 * (scanL (l.drop 6)).length ≤ 1000000000 by
      have h1 := scanL_length (l.drop 6)
      rw [List.length_drop, Hl.out.2.2.2] at h1
      omega)
    have Hm := Lib.hid (show m ≤ 1000000000 by omega)
    clear h0 hl3 hs3 hb3 hT3 hr3 hB2 bz2 br2 hs2 hrz hm h6 hsB hd
    gi_wp2_with fail
    refine range_W 9 rfl (by decide) (gf := 121) (lb := #[.pointer (some ⟨sB, 0, none⟩)]) rfl trivial (enters_of Tryz.func121 (by kernel_rfl) rfl)
      (entries_seq sB w.heap.size Hm.out w3 (by have := Hd3.out; omega) H0.out.2.1 H0.out.2.2.1 (Hl.out.2.2.1.drop 6) hc' H0.out.2.2.2) (fun h h' => h.trans h') (KpB.put (by have := Hd3.out; omega) (by have := Hd3.out; omega)) (Below.refl _ _) (fun _ => rfl)
      (CInv w f r z sB w3.heap.size (.slice A' m c')) (fun _ _ _ => False) (CInv.own (by have := Hd3.out; omega) (by have := Hd3.out; omega) (by have := Hd3.out; omega) (by have := Hd3.out; omega))
      (fun _ _ _ _ _ h _ _ => h) H0.out.1
      (CVar w3.heap.size fun bx d => { tmps := #[.slice A n c, undef, .pointer (some ⟨r, 0, none⟩), .int .i64 0, .int .i64 f, .bool true, .pointer (some ⟨z, 0, none⟩), .pointer (some ⟨bx, 0, none⟩), .tuple #[.int .i64 f, .bool true], .slice A n c, .tuple #[.int .i64 f, .bool true], .int .i64 f, .bool true, .bool true, .bool false, undef, .int .i64 f, .agg #[.int .i64 f, .slice none 0 0, .int .i64 6], .slice A n c, .slice A' m c', .func (.func 121) #[] #[.pointer (some ⟨sB, 0, none⟩)], .agg #[.int .i64 d.tm, .int .i64 d.kd, .int .i64 d.vl], undef, undef, undef, undef, undef, undef, undef, undef, undef, undef, undef], defers := [] })
      CVar.put ?assign ?body ?done ?stop
    case assign =>
      intro lp pre d W hI hok
      gi_wp2
      have hb := (Below.refl W.heap.size W).alloc (Nat.le_refl _) (.cells #[.int .i64 d.tm, .int .i64 d.kd, .int .i64 d.vl] 41)
      have hsz := hI.size
      have hd := Hd3.out
      obtain ⟨v, hv, hrow⟩ := hI.bz
      exact ⟨(KeepsOthers.alloc _ _).from _, KpB.below hb (by omega) (by omega), ⟨⟨v, hv.below hb, hrow.alloc _⟩, hI.br.below hb, hI.bs.alloc _, hI.low.trans (hb.mono (by omega)), by have := hb.size; omega⟩, W.heap.size, BoxE.new W d, hsz, rfl⟩
    case body =>
      rintro lp pre d a' W hI ⟨bx, hbx, hDx, rfl⟩ ⟨_, hok⟩
      obtain ⟨k0, k1, k2⟩ := hbx.cells
      obtain ⟨v, hv, hrow⟩ := hI.bz
      obtain ⟨A4, c4, rfl, _⟩ := own_slice hrow
      obtain ⟨d0, d1, d2⟩ := hv.cells
      have hplen : pre.length ≤ 1000000000 := by
        have h1 := congrArg List.length hok.1
        rw [List.length_append] at h1
        have := Hlen.out
        omega
      obtain ⟨N, hN⟩ : ∃ N, N = pre.length := ⟨_, rfl⟩
      rw [← hN] at hplen hrow hv d1 d2
      have HI := Lib.hid (⟨hI, hrow, hv, hN, hplen⟩ : _ ∧ _ ∧ _ ∧ _ ∧ _)
      have hw1 : IntKind.i64.wrap (6 + 15 * (N : Int) + 15) = 6 + 15 * ((N : Int) + 1) := by rw [IntKind.wrap_i64] <;> omega
      clear hI hbx hok hN hv hrow
      gi_wp2_with (gi_at_builtin; refine hold ?_)
      refine unhold (wpListIn_append_own _ rfl _ _ 22 rfl w.heap.size 41 j0 (.agg #[.int .i64 0, .int .i64 0, .int .i64 0]) 3 24 Tryz.underlying22 hj hy0 hy1 hy2 rfl (by decide) _ _ _ rfl (HI.out.2.1.alloc _) ⟨W.heap.size, 0, none⟩ 1 1 [.int .i64 d.tm, .int .i64 d.kd, .int .i64 d.vl] rfl rfl (cell_three_new _ _ _ _ _) (by simp [Value.oneCell']) (by unfold maxLen; omega) (by omega) (by have := HI.out.1.low.size; simp; omega) ?_)
      intro v' w4 hown' hgrow _
      obtain ⟨A5, c5, rfl, _⟩ := own_slice hown'
      have hd := Hd3.out
      obtain ⟨q1, q2, q3, q4, q5, q6⟩ := scan_step (u' := 6 + 15 * ((N : Int) + 1)) HI.out.2.2.1 HI.out.2.1 HI.out.1.low.size (by omega) hown' hgrow
      have q7 := q1.s1 (.slice A5 (N + 1) c5)
      have f1 := q1.frozen 1
      have f2 := q7.frozen 2
      obtain ⟨p0, p1, p2⟩ := q1.cells
      obtain ⟨s0, s1, s2⟩ := q7.cells
      have H6 := Lib.hid (⟨q2, q3, q4, q5, q6⟩ : _ ∧ _ ∧ _ ∧ _ ∧ _)
      clear q1 q2 q3 q4 q5 q6 q7 hown' hgrow hd d0 d1 d2 k0 k1 k2
      gi_wp2_with fail
      obtain ⟨q2, q3, q4, q5, q6⟩ := H6.out
      obtain ⟨hI, hrow, hv, hN, hplen⟩ := HI.out
      have hd := Hd3.out
      have hsb := q6 sB _ _ _ (by omega) (by decide) hI.bs
      have hrr := q6 r _ _ _ (by omega) (by decide) hI.br
      have hlen : (pre ++ [d]).length = N + 1 := by rw [List.length_append, hN]; rfl
      refine ⟨q4.from _, ⟨fun k hk => q5.block k hk, hsb.trans hI.bs.symm, q4.size⟩, ⟨⟨.slice A5 (N + 1) c5, ?_, ?_⟩, hrr, hsb, hI.low.trans q5, Nat.le_trans hI.size q4.size⟩⟩
      · rw [hlen, Int.natCast_add]; exact q2
      · rw [hlen, List.flatMap_append]; exact q3
    case done =>
      rintro D ys W hD2 rfl hI hK
      obtain ⟨v, hv, hrow⟩ := hI.bz
      obtain ⟨A4, c4, rfl, hc4⟩ := own_slice hrow
      obtain ⟨N, hN⟩ : ∃ N, N = (scanL (l.drop 6)).length := ⟨_, rfl⟩
      rw [← hN] at hv hrow hc4
      obtain ⟨d0, d1, d2⟩ := hv.cells
      obtain ⟨e0, e1, e2⟩ := hI.br.cells
      have f0 := hI.br.frozen 0
      have f1 := hI.br.frozen 1
      have f2 := hI.br.frozen 2
      have HI := Lib.hid (⟨hI, hrow, hN, hc4⟩ : _ ∧ _ ∧ _ ∧ _)
      have HK := Lib.hid (⟨hK, hD2⟩ : _ ∧ _)
      clear hI hK hD2 hv hrow hN hc4
      gi_wp2_with fail
      obtain ⟨hI, hrow, hN, hc4⟩ := HI.out
      have hd := Hd3.out
      have g1 := setCell_grown W r 0 (.int .i64 f)
      have g2 := setCell_grown (W.setCell ⟨r, 0, none⟩ (.int .i64 f)) r 1 (.slice A4 N c4)
      have g3 := setCell_grown ((W.setCell ⟨r, 0, none⟩ (.int .i64 f)).setCell ⟨r, 1, none⟩ (.slice A4 N c4)) r 2 (.int .i64 (6 + 15 * (N : Int)))
      have b1 := hI.br.s0 f
      have b2 := b1.s1 (.slice A4 N c4)
      have b3 := b2.s2 (6 + 15 * (N : Int))
      have r1 := hrow.kept g1 (.inr (box_not_row hI.br (by decide) hrow).symm)
      have r2 := r1.kept g2 (.inr (box_not_row b1 (by decide) r1).symm)
      have r3 := r2.kept g3 (.inr (box_not_row b2 (by decide) r2).symm)
      have hz := Hr.out.1
      have hB3 := ((hI.low.setCell (p := ⟨r, 0, none⟩) hz (.int .i64 f)).setCell (p := ⟨r, 1, none⟩) hz (.slice A4 N c4)).setCell (p := ⟨r, 2, none⟩) hz (.int .i64 (6 + 15 * (N : Int)))
      refine leaves_marks (B := w.heap.size) [D] _ ⟨by simp, fun d hd => ?_⟩ fun w' hw' => ⟨.tuple #[.agg #[.int .i64 f, .slice A4 N c4, .int .i64 (6 + 15 * (N : Int))], .int .i64 0], ?_, ?_⟩
      · obtain rfl : d = D := by simpa using hd
        have hlt := (Array.getElem?_eq_some_iff.1 HK.out.1).1
        have hDr := HK.out.2
        exact ⟨by omega, ((g3.block d (by have := g1.size; have := g2.size; omega) (by simp; omega)).trans ((g2.block d (by have := g1.size; omega) (by simp; omega)).trans (g1.block d hlt (by simp; omega)))).trans HK.out.1⟩
      · have b4 : BoxC w' r f (.slice A4 N c4) (6 + 15 * (N : Int)) := hw'.2 _ _ b3 rfl
        clear d0 d1 d2
        obtain ⟨d0, d1, d2⟩ := b4.cells
        clear b4 b3 b2 b1 g1 g2 g3 r1 r2 r3 hd hI hrow hB3 hw' e0 e1 e2 f0 f1 f2 hrun6 hi hz0 hz1 hz2 hj hy0 hy1 hy2 hN
        simp [results, Tryz.results112, go_sem, d0, d1, d2]
      · rw [HS.out, ← hN]
        refine ⟨⟨A4, c4, by rw [← hN], by rw [← hN]; exact hc4, ?_⟩, hB3.trans hw'.1⟩
        rw [← hN]
        exact Row.of_own (by decide) EnP.len (own_marks r3 hw')
    case stop =>
      rintro D cc pre W _ h _
      exact h.elim

theorem scan_any [Inhabited Cr.Rows16] (A : Option Addr) (n c : Nat) (l : List Int) (w : World) (hT : Cr.Tab w) (hr : Rd w w.heap.size .u8 A n l) (hb : Byt l) (hnc : n ≤ c) (hn : n ≤ 1000000000) :
    Calls Tryz.prog 112 #[.slice A n c] w (ScanT w (scanP l)) := callsIn_wide.1 (scan_in A n c l w hT hr hb hnc hn)

end Go.Proofs.YtcpdjhkpmaamdaaGreat
