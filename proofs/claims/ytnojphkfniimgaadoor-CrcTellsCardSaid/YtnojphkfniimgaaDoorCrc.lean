/-
  crc.Sum, crc.Put, crc.Take: their contracts.
-/
import Derived.Test.YtnojphkfniimgaaDoorCrcN
import Derived.Test.YtnojphkfniimgaaDoorCut
namespace Go.Proofs.YtnojphkfniimgaaDoor
open Go.RowKit

set_option maxRecDepth 100000 in
set_option maxHeartbeats 800000 in
theorem sum_c (A : Option Addr) (n c : Nat) (ps : List Part) (w : World) (hT : Tab w) (hr : Rds w w.heap.size A n ps) (hn : n ≤ 140737488355328) :
    Calls Tryd.prog 18 #[.slice A n c] w fun e w' => (∃ x, e = .returned (.int .u32 x) ∧ Is32 x (sumN (natL (flat ps)))) ∧ Below w.heap.size w w' := by
  have Hl := Lib.hid hr.len
  go_enter Tryd.func18, Tryd.ntmps18
  go_wp2
  go_loopw [3, 8] (fun x i wr => ∃ (k : Nat) (y : Int), k ≤ n ∧ i = .int .i64 k ∧ x = .int .u32 y ∧ Is32 y (sumN (natL (flat (ps.take k)))) ∧ Below w.heap.size w wr) (fun _ i _ => n - (intOf i).toNat)
  case atStart => exact ⟨0, 0, Nat.zero_le _, rfl, rfl, ⟨by omega, by rw [List.take_zero]; rfl⟩, Below.refl _ _⟩
  case round =>
    obtain ⟨k, y, hk, rfl, rfl, ⟨hy, hy2⟩, hB⟩ := hrel
    have Hy := Lib.hid hy2
    clear hy2
    by_cases hlt : k < n
    · obtain ⟨bl, off, q, rfl, hbl, hq, hc, hrq, hbq, hnq⟩ := (hr.on hB hB.size).at_ hlt
      have Hq := Lib.hid (natL_take hq)
      clear hq
      have hsz := hB.size
      go_wp2_with fail
      refine (next_c y _ _ _ q.l _ (hT.on hB) hy hrq hbq hnq).mono ?_
      rintro e w1 ⟨⟨x, rfl, hx⟩, hb1⟩
      have Hx : Hid (Is32 x (sumN (natL (flat (ps.take (k + 1)))))) := by
        rw [Hq.out]
        unfold sumN
        rw [nextN_append]
        rw [Hy.out] at hx
        exact hx
      clear hx
      go_wp2_with fail
      go_roundw
      case rel => exact ⟨k + 1, x, by omega, by go_num, rfl, Hx.out, hB.trans (hb1.mono hsz)⟩
      case measure => simp [intOf]; omega
    · obtain rfl : k = n := by omega
      have hf : Is32 y (sumN (natL (flat ps))) := by
        have h1 := Hy.out
        rw [List.take_of_length_le (by rw [Hl.out]; exact Nat.le_refl _)] at h1
        exact ⟨hy, h1⟩
      have Hf := Lib.hid hf
      clear hf
      go_wp2
      go_ret
      exact ⟨⟨_, rfl, Hf.out⟩, hB⟩

set_option maxRecDepth 100000 in
set_option maxHeartbeats 1000000 in
theorem put_c (A : Option Addr) (n c : Nat) (l : List Int) (w : World) (hT : Tab w) (hr : Rd w w.heap.size .u8 A n l) (hb : Byt l) (_hnc : n ≤ c) (hn : n ≤ 1048576) :
    Calls Tryd.prog 14 #[.slice A n c] w fun e w' => (∃ x A' c', Is32 x (sumN (natL l)) ∧ e = .returned (.slice A' (n + 4) c') ∧ n + 4 ≤ c' ∧ Rd w' w'.heap.size .u8 A' (n + 4) (l ++ fourI x)) ∧ Below w.heap.size w w' := by
  obtain ⟨i0, hi, hz0, hz1, hz2⟩ := info_parts info_u8
  go_enter Tryd.func14, Tryd.ntmps14
  go_wp2_with fail
  refine (sum_c _ 1 1 [⟨A, n, c, l⟩] _ (hT.on ((Below.refl _ w).alloc (Nat.le_refl _) _)) (Rds.made w _ [⟨A, n, c, l⟩] rfl (fun q hq => by
    obtain rfl := List.mem_singleton.1 hq
    exact ⟨hr, hb, by simp only; omega⟩)) (by omega)).mono ?_
  rintro e w1 ⟨⟨x, rfl, hx⟩, hb1⟩
  have hB : Below w.heap.size w w1 := ((Below.refl _ w).alloc (Nat.le_refl _) _).trans (hb1.mono (by simp))
  rw [flat_cons, flat_nil, List.append_nil] at hx
  have Hx := Lib.hid hx
  have hx0 := hx.1
  clear hx hb1
  have hsz := hB.size
  go_wp2_with fail
  refine (four_c x _ hx0).mono ?_
  rintro e w2 ⟨rfl, hb2⟩
  replace hB : Below w.heap.size w w2 := hB.trans (hb2.mono hsz)
  clear hb2 hsz
  have hsz := hB.size
  go_wp2_with (at_make; refine hold ?_)
  obtain ⟨g, hg⟩ : ∃ g, g = w2.heap.size := ⟨_, rfl⟩
  obtain ⟨w3, hw3⟩ : ∃ w3, w3 = w2.alloc (.cells #[.int .u8 (x % 256), .int .u8 (x / 256 % 256), .int .u8 (x / 65536 % 256), .int .u8 (x / 16777216)] 33) := ⟨_, rfl⟩
  have hq3 : Rd w3 w3.heap.size .u8 (some ⟨g, 0, none⟩) 4 (fourI x) := by rw [hw3]; exact Rd.made w2 .u8 33 (fourI x) hg
  have hB3 : Below w.heap.size w w3 := by rw [hw3]; exact hB.alloc hsz _
  have hr3 : Rd w3 w3.heap.size .u8 A n l := hr.on hB3 hB3.size
  rw [← hw3, ← hg]
  clear hw3 hg hB hsz
  refine unhold (wpList_make_own _ rfl _ _ 25 rfl w3.heap.size 5 i0 (.int .u8 0) 1 Tryd.underlying25 hi hz0 hz1 _ _ _ (n + 4) rfl rfl (by omega) (by rw [hz2]; omega) (by unfold maxLen; omega) (Nat.le_refl _) ?_)
  intro w4 own4 grow4
  have hB4 : Below w3.heap.size w3 w4 := (Below.refl _ w3).grown grow4 (Nat.le_refl _) (fun k e => by cases e)
  go_wp2_with (at_builtin; refine hold ?_)
  refine unhold (wpList_append_rd (.tmp 13) (.tmp 14) 25 Tryd.underlying25 hi hz0 hz1 hz2 byte_cells own4 (hr3.below hB4) (by unfold maxLen; omega) (by omega) hB4.size rfl rfl rfl rfl ?_)
  intro v1 w5 L5
  have hB5 : Below w3.heap.size w3 w5 := L5.below hB4 hB4.size (fun g hg => by simp [Value.ownBlock] at hg; omega)
  have n5 : ∀ g, v1.ownBlock = some g → w3.heap.size ≤ g := L5.new (fun g hg => by simp [Value.ownBlock] at hg; omega) hB4.size
  go_wp2_with (at_builtin; refine hold ?_)
  refine unhold (wpList_append_rd (.tmp 16) (.tmp 17) 25 Tryd.underlying25 hi hz0 hz1 hz2 byte_cells L5.1 (hq3.below hB5) (by unfold maxLen; omega) (by omega) hB5.size rfl rfl rfl rfl ?_)
  intro v2 w6 L6
  have hB6 : Below w3.heap.size w3 w6 := L6.below hB5 hB5.size n5
  have own := L6.1
  rw [Nat.zero_add, List.nil_append, ← List.map_append] at own
  obtain ⟨A', c', rfl, hc', hr'⟩ := own_rd own
  clear L5 L6 own n5
  go_wp2
  go_ret
  exact ⟨⟨x, A', c', Hx.out, rfl, hc', hr'⟩, hB3.trans (hB6.mono hB3.size)⟩

set_option maxRecDepth 100000 in
set_option maxHeartbeats 1000000 in
theorem take_few (A : Option Addr) (n c : Nat) (w : World) (h : n < 4) :
    Calls Tryd.prog 9 #[.slice A n c] w fun e w' => e = .returned (.tuple #[.slice none 0 0, .bool false]) ∧ Below w.heap.size w w' := by
  have hd : decide ((n : Int) - 4 < 0) = true := by simp; omega
  go_enter Tryd.func9, Tryd.ntmps9
  go_wp2
  go_ret2
  exact ⟨rfl, Below.refl _ _⟩

set_option maxRecDepth 100000 in
set_option maxHeartbeats 1000000 in
theorem take_in (A : Option Addr) (n c : Nat) (l : List Int) (w : World) (hT : Tab w) (hr : Rd w w.heap.size .u8 A n l) (hb : Byt l) (hnc : n ≤ c) (hn : 4 ≤ n ∧ n ≤ 1048576) :
    Calls Tryd.prog 9 #[.slice A n c] w fun e w' => TakeOut l e w' ∧ Below w.heap.size w w' := by
  obtain ⟨i0, hi, hz0, hz1, hz2⟩ := info_parts info_u8
  have hd : decide ((n : Int) - 4 < 0) = false := by simp; omega
  obtain ⟨k, hk⟩ : ∃ k : Nat, (n : Int) - 4 = (k : Int) := ⟨n - 4, by omega⟩
  have hkn : k ≤ n := by omega
  have hkc : (k : Int) ≤ (c : Int) := by omega
  have hk0 : (0 : Int) ≤ (k : Int) := Int.natCast_nonneg _
  have hck : ¬ c = k := by omega
  have Hk := Lib.hid hk
  obtain ⟨b, off, rfl, hbl, hcell⟩ := hr.at_ (by omega)
  clear hcell
  obtain ⟨A', c', hrun, hcut⟩ := cut_rest Tryd.underlying25 hi hz1 (some ⟨b, off, none⟩) n c k hkn hnc
  have Hkl := Lib.hid (show l.length - 4 = k by have := hr.1; omega)
  have Hok : Hid (eqB (fourI (sumI (l.take k))) (l.drop k) = okB l) := by
    unfold okB
    rw [Hkl.out, hr.1, decide_eq_true hn.1, Bool.true_and, Bool.eq_iff_iff, eqB_iff, eqB_iff]
    have e1 : l.take k ++ l.drop k = l := List.take_append_drop k l
    exact ⟨fun h => by rw [h, e1], fun h => List.append_cancel_left (h.trans e1.symm)⟩
  go_enter Tryd.func9, Tryd.ntmps9
  go_wp2_with fail
  refine (sum_c _ 1 1 [⟨some ⟨b, off, none⟩, k, c, l.take k⟩] _ (hT.on ((Below.refl _ w).alloc (Nat.le_refl _) _)) (Rds.made w _ [⟨some ⟨b, off, none⟩, k, c, l.take k⟩] rfl (fun q hq => by
    obtain rfl := List.mem_singleton.1 hq
    exact ⟨hr.first hkn, hb.take k, by simp only; omega⟩)) (by omega)).mono ?_
  rintro e w1 ⟨⟨x, rfl, hx⟩, hb1⟩
  have hB : Below w.heap.size w w1 := ((Below.refl _ w).alloc (Nat.le_refl _) _).trans (hb1.mono (by simp))
  rw [flat_cons, flat_nil, List.append_nil] at hx
  have hx0 := hx.1
  obtain rfl : x = sumI (l.take k) := hx.sum
  clear hx hb1
  have hsz := hB.size
  go_wp2_with fail
  refine (four_c _ _ hx0).mono ?_
  rintro e w2 ⟨rfl, hb2⟩
  replace hB : Below w.heap.size w w2 := hB.trans (hb2.mono hsz)
  clear hb2 hsz
  have hsz := hB.size
  go_wp2_with fail
  obtain ⟨g, hg⟩ : ∃ g, g = w2.heap.size := ⟨_, rfl⟩
  obtain ⟨w3, hw3⟩ : ∃ w3, w3 = w2.alloc (.cells #[.int .u8 (sumI (l.take k) % 256), .int .u8 (sumI (l.take k) / 256 % 256), .int .u8 (sumI (l.take k) / 65536 % 256), .int .u8 (sumI (l.take k) / 16777216)] 33) := ⟨_, rfl⟩
  have hq3 : Rd w3 w3.heap.size .u8 (some ⟨g, 0, none⟩) 4 (fourI (sumI (l.take k))) := by rw [hw3]; exact Rd.made w2 .u8 33 (fourI (sumI (l.take k))) hg
  have hB3 : Below w.heap.size w w3 := by rw [hw3]; exact hB.alloc hsz _
  have hr3 : Rd w3 w3.heap.size .u8 (some ⟨b, off, none⟩) n l := hr.on hB3 hB3.size
  have hg3 : g < w3.heap.size := by rw [hw3, hg]; simp
  rw [← hw3, ← hg]
  clear hw3 hg hB hsz
  have q1 : ∀ m, Calls Tryd.prog 22 #[.slice (some ⟨g, 0, none⟩) 4 4, .slice A' (n - k) c'] (w3.drewN m) fun e w' => e = .returned (.bool (okB l)) ∧ w' = w3.drewN m := fun m => by
    have hbm := below_drewN (Below.refl w3.heap.size w3) m
    have h1 := equal_any (some ⟨g, 0, none⟩) A' 4 (n - k) 4 c' _ _ (w3.drewN m) (hq3.on hbm hbm.size) ((hcut hr3).on hbm hbm.size) (fourI_byt hx0) (hb.drop k)
    rw [Hok.out] at h1
    exact h1
  have hB4 := below_drewN hB3
  clear hq3 hcut
  go_quiet (exact Calls.quiet_of_same (q1 _))
  obtain ⟨w4, hw4⟩ : ∃ w4, w4 = w3.drewN nq := ⟨_, rfl⟩
  replace hB4 := hB4 nq
  rw [← hw4] at hB4 ⊢
  clear hw4 hr3 hg3 q1 hrun hB3
  have hkf : decide ((k : Int) < 0) = false := by simp
  obtain ⟨bv, hbv⟩ : ∃ bv, okB l = bv := ⟨_, rfl⟩
  have Hb := Lib.hid hbv
  rw [hbv]
  clear hbv
  cases bv
  · go_wp2
    go_ret2
    exact ⟨.inl ⟨Hb.out, rfl⟩, hB4⟩
  · go_wp2_with fail
    refine (clone_some _ k c (l.take k) _ ((hr.on hB4 hB4.size).first hkn) (by omega)).mono ?_
    rintro e w5 ⟨⟨A1, c1, rfl, hc1, hr1⟩, hb5⟩
    have hB5 := hB4.trans (hb5.mono hB4.size)
    go_wp2
    go_ret2
    exact ⟨.inr ⟨Hb.out, A1, c1, by rw [Hkl.out]; rfl, by rw [Hkl.out]; exact hc1, by rw [Hkl.out]; exact hr1⟩, hB5⟩

theorem take_c (A : Option Addr) (n c : Nat) (l : List Int) (w : World) (hT : Tab w) (hr : Rd w w.heap.size .u8 A n l) (hb : Byt l) (hnc : n ≤ c) (hn : n ≤ 1048576) :
    Calls Tryd.prog 9 #[.slice A n c] w fun e w' => TakeOut l e w' ∧ Below w.heap.size w w' := by
  by_cases h4 : n < 4
  · refine (take_few A n c w h4).mono fun e w' ⟨he, hB⟩ => ⟨.inl ⟨?_, he⟩, hB⟩
    unfold okB
    rw [hr.1, decide_eq_false (by omega), Bool.false_and]
  · exact take_in A n c l w hT hr hb hnc ⟨by omega, hn⟩

end Go.Proofs.YtnojphkfniimgaaDoor
