/-
  CrcBurst's walk: it returns true, and turns nothing that lay.
-/
import Derived.Test.YtnojphkfniimgaaDoorBurstP
import Derived.Test.YtnojphkfniimgaaDoorFourLaw
namespace Go.Proofs.YtnojphkfniimgaaDoor
open Go.RowKit

set_option maxRecDepth 100000 in
set_option maxHeartbeats 1000000 in
theorem burst_out (A : Option Addr) (n c : Nat) (at0 y0 y1 y2 y3 : Int) (w : World) (hT : Tab w) (ho : 400 < n ∨ (y0 = 0 ∧ y1 = 0 ∧ y2 = 0 ∧ y3 = 0)) :
    Calls Tryd.prog 4 #[.slice A n c, .int .i64 at0, .agg #[.int .u8 y0, .int .u8 y1, .int .u8 y2, .int .u8 y3]] w fun e w' => e = .returned (.bool true) ∧ Below w.heap.size w w' := by
  by_cases h1 : 400 < n
  · have hd : decide ((400 : Int) < (n : Int)) = true := by simp; omega
    clear ho h1
    go_enter Tryd.func4, Tryd.ntmps4
    go_wp2_with fail
    refine (wakes_any _ (hT.alloc _)).mono ?_
    rintro e w' ⟨rfl, hb⟩
    go_wp2_with fail
    go_ret
    exact ⟨rfl, ((Below.refl _ w).alloc (Nat.le_refl _) _).trans (hb.mono (by simp))⟩
  · have hd : decide ((400 : Int) < (n : Int)) = false := by simp; omega
    obtain ⟨rfl, rfl, rfl, rfl⟩ := ho.resolve_left h1
    have q4 := eql_same4 0 0 0 0
    clear ho h1
    go_enter Tryd.func4, Tryd.ntmps4
    go_wp2_with fail
    refine (wakes_any _ (hT.alloc _)).mono ?_
    rintro e w' ⟨rfl, hb⟩
    go_wp2_with fail
    go_ret
    exact ⟨rfl, ((Below.refl _ w).alloc (Nat.le_refl _) _).trans (hb.mono (by simp))⟩

/-- The place of a burst, as the law reckons it. -/
theorem place_in {n : Nat} (hn : n ≤ 400) (a : Int) : ∃ (q : Int) (k : Nat), Int.tmod a ((n : Int) + 1) = q ∧ wrap64 (q + (n : Int)) = q + (n : Int) ∧ wrap64 (q + (n : Int) + 1) = q + (n : Int) + 1 ∧ Int.tmod (q + (n : Int) + 1) ((n : Int) + 1) = (k : Int) ∧ (q + (n : Int) + 1) % ((n : Int) + 1) = (k : Int) ∧ k ≤ n := by
  have h0 : (0 : Int) < (n : Int) + 1 := by omega
  have h1 := Int.lt_tmod_of_pos a h0
  have h1' := Int.tmod_lt_of_pos a h0
  have h2 := Int.tmod_nonneg ((n : Int) + 1) (show 0 ≤ Int.tmod a ((n : Int) + 1) + (n : Int) + 1 by omega)
  have h3 := Int.tmod_lt_of_pos (Int.tmod a ((n : Int) + 1) + (n : Int) + 1) h0
  have h4 : Int.tmod (Int.tmod a ((n : Int) + 1) + (n : Int) + 1) ((n : Int) + 1) = (Int.tmod a ((n : Int) + 1) + (n : Int) + 1) % ((n : Int) + 1) := Int.tmod_eq_emod_of_nonneg (by omega)
  exact ⟨_, (Int.tmod (Int.tmod a ((n : Int) + 1) + (n : Int) + 1) ((n : Int) + 1)).toNat, rfl, by unfold wrap64; omega, by unfold wrap64; omega, by omega, by omega, by omega⟩

set_option maxRecDepth 100000 in
set_option maxHeartbeats 1000000 in
theorem burst_in (A : Option Addr) (n c : Nat) (l : List Int) (at0 y0 y1 y2 y3 : Int) (w : World) (hT : Tab w) (hr : Rd w w.heap.size .u8 A n l) (hb : Byt l) (hnc : n ≤ c) (hn : n ≤ 400)
    (b0 : 0 ≤ y0 ∧ y0 ≤ 255) (b1 : 0 ≤ y1 ∧ y1 ≤ 255) (b2 : 0 ≤ y2 ∧ y2 ≤ 255) (b3 : 0 ≤ y3 ∧ y3 ≤ 255) (hy : ¬ (y0 = 0 ∧ y1 = 0 ∧ y2 = 0 ∧ y3 = 0)) :
    Calls Tryd.prog 4 #[.slice A n c, .int .i64 at0, .agg #[.int .u8 y0, .int .u8 y1, .int .u8 y2, .int .u8 y3]] w fun e w' => e = .returned (.bool true) ∧ Below w.heap.size w w' := by
  obtain ⟨i0, hi, hz0, hz1, hz2⟩ := info_parts info_u8
  have hd : decide ((400 : Int) < (n : Int)) = false := by simp; omega
  have q4 := fun w => eql_four y0 y1 y2 y3 0 0 0 0 w
  rw [decide_eq_false hy] at q4
  have Hl := Lib.hid hr.1
  go_enter Tryd.func4, Tryd.ntmps4
  go_wp2_with fail
  obtain ⟨g0, hg0⟩ : ∃ g, g = w.heap.size := ⟨_, rfl⟩
  obtain ⟨w0, hw0⟩ : ∃ w0, w0 = w.alloc (.cells #[.int .u8 y0, .int .u8 y1, .int .u8 y2, .int .u8 y3] 33) := ⟨_, rfl⟩
  obtain ⟨j0, j1, j2, j3⟩ := boxed4 hg0 hw0
  have hB0 : Below w.heap.size w w0 := by rw [hw0]; exact (Below.refl _ _).alloc (Nat.le_refl _) _
  have hlt0 : g0 < w0.heap.size := by rw [hw0, hg0]; simp
  have hr0 : Rd w0 w0.heap.size .u8 A n l := hr.on hB0 hB0.size
  have hT0 : Tab w0 := hT.on hB0
  rw [← hw0, ← hg0]
  have HB0 := Lib.hid hB0
  clear hw0 hg0 hB0 hr hT q4
  refine (put_out w0 hT0 hr0 hb hnc (by omega)).mono ?_
  rintro e w1 ⟨⟨A1, c1, rfl, hc1, r1⟩, hB1⟩
  have hsz := hB1.size
  obtain ⟨M, hM⟩ : ∃ M, M = l ++ fourI (sumI l) := ⟨_, rfl⟩
  have Hok := Lib.hid (okB_put l)
  rw [← hM] at r1 Hok
  have hbM : Byt M := by rw [hM]; exact hb.append (fourI_byt (sumI_range l))
  have Htake := Lib.hid (show M.take n = l by rw [hM, ← Hl.out]; exact List.take_left)
  have qn : (((n + 4 : Nat) : Int) == (n : Int) + 4) = true := by simp
  have qm : (((n + 4 : Nat) : Int) != (n : Int) + 4) = false := by simp
  have cf := cut_first (P := Tryd.prog) Tryd.underlying25 hi hz1 A1 (n + 4) c1 n (by omega)
  have HM := Lib.hid hM
  clear hM
  go_wp2_with fail
  refine (same_true _ (r1.first (by omega)) (hr0.on hB1 hsz) (hbM.take n) Htake.out).mono ?_
  rintro e w1' ⟨rfl, rfl⟩
  go_wp2_with fail
  refine (take_yes w1 (hT0.on hB1) r1 hbM hc1 (by omega) Hok.out (q := n) (by have := r1.1; omega) (R := l) Htake.out).mono ?_
  rintro e w2 ⟨⟨A2, c2, rfl, hc2, r2⟩, hb2⟩
  replace r1 := r1.on hb2 hb2.size
  replace hB1 : Below w0.heap.size w0 w2 := hB1.trans (hb2.mono hsz)
  clear hb2 hsz cf
  have hsz := hB1.size
  go_wp2_with fail
  refine (same_true _ r2 (hr0.on hB1 hsz) hb rfl).mono ?_
  rintro e w2' ⟨rfl, rfl⟩
  obtain ⟨q, k, hq0, hq1, hq2, hk, hk', hkn⟩ := place_in hn at0
  have hne : ((n : Int) + 1 == 0) = false := by simp; omega
  have hne' : ¬ ((n : Int) + 1 = 0) := by omega
  go_wp2_with (at_builtin; refine hold ?_)
  refine unhold (wpList_append_rd (.tmp 55) (.tmp 56) 25 Tryd.underlying25 hi hz0 hz1 hz2 byte_cells (own_empty w2 w0.heap.size 5 hsz) (r1.below ((Below.refl _ w2).alloc (Nat.le_refl _) _)) (by unfold maxLen; omega) (by omega) (by simp; omega) rfl rfl rfl rfl ?_)
  intro v3 w3 L3
  have hB3 : Below w0.heap.size w0 w3 := L3.below (hB1.alloc hsz _) (by simp; omega) (fun g hg => by simp [Value.ownBlock] at hg; omega)
  have own3 := L3.1
  rw [Nat.zero_add, List.nil_append] at own3
  obtain ⟨g, c3, rfl⟩ := ownsRow_succ own3
  have hg := own3.lt
  clear L3 hB1 r2 hc2 hsz
  have hsz := hB3.size
  go_wp2_with fail
  obtain ⟨Y, hY⟩ : ∃ Y, Y = [y0, y1, y2, y3] := ⟨_, rfl⟩
  have HYb := Lib.hid (show Byt Y by rw [hY]; exact byt4 b0 b1 b2 b3)
  have hbox : ∀ j, j < 4 → w0.cell? ⟨g0, j, none⟩ = some (.int .u8 (Y[j]?.getD 0)) := by
    intro j hj
    rw [hY]
    rcases (by omega : j = 0 ∨ j = 1 ∨ j = 2 ∨ j = 3) with rfl | rfl | rfl | rfl
    · exact j0
    · exact j1
    · exact j2
    · exact j3
  have HY := Lib.hid hY
  have hMl : M.length = n + 4 := r1.1
  have own0 : w3.ownsRow w0.heap.size 5 1 (.slice (some ⟨g, 0, none⟩) (n + 4) c3) (n + 4) ((mixI M k Y 0).map (Value.int .u8)) := own3
  have Hg := Lib.hid (show w0.heap.size ≤ g from (hg g rfl).1)
  clear j0 j1 j2 j3 hY own3 hk hk' hq0 hq1 hq2 hg qm
  go_loopw [11] (fun i wr => ∃ j : Nat, j ≤ 4 ∧ i = .int .i64 j ∧ wr.ownsRow w0.heap.size 5 1 (.slice (some ⟨g, 0, none⟩) (n + 4) c3) (n + 4) ((mixI M k Y j).map (Value.int .u8)) ∧ Below w0.heap.size w0 wr) (fun i _ => 4 - (intOf i).toNat)
  case atStart => exact ⟨0, by omega, rfl, own0, hB3⟩
  case round =>
    obtain ⟨j, hj, rfl, own, hB⟩ := hrel
    clear own0 hB3 hsz
    by_cases hlt : j < 4
    · obtain ⟨p, hp⟩ : ∃ p : Nat, (k : Int) + (j : Int) = (p : Int) := ⟨k + j, by omega⟩
      have hpn : p < n + 4 := by omega
      have hpk : k + j = p := by omega
      have hp0 : (0 : Int) ≤ (p : Int) := by omega
      have hp1 : (p : Int) < (n : Int) + 4 := by omega
      obtain ⟨x, hx⟩ : ∃ x, M[p]?.getD 0 = x := ⟨_, rfl⟩
      obtain ⟨y, hy⟩ : ∃ y, Y[j]?.getD 0 = y := ⟨_, rfl⟩
      have hcb := (hB.cell (p := ⟨g0, j, none⟩) hlt0).trans (hbox j hlt)
      rw [hy] at hcb
      have hcd : wr.cell? ⟨g, p, none⟩ = some (.int .u8 x) := by
        rw [own.cellAt p (by omega), List.getElem?_map, mixI_out M k Y j p (by omega), List.getElem?_eq_getElem (by omega), ← hx, List.getElem?_eq_getElem (by omega)]
        rfl
      obtain ⟨own2, hg2⟩ := own.stored p (.int .u8 (bits .xor .u8 x y))
      rw [← List.map_set, show (mixI M k Y j).set p (bits .xor .u8 x y) = mixI M k Y (j + 1) by rw [mixI, hpk, hx, hy]] at own2
      have hfj := own.frozenAt p
      have Hown := Lib.hid own2
      clear own own2 hg2 hx hy hpk
      go_wp2_with fail
      go_region
      go_wp2
      go_roundw
      case rel => exact ⟨j + 1, by omega, by go_num, Hown.out, (hB.setCell Hg.out _).drew⟩
      case measure => simp [intOf]; omega
    · obtain rfl : j = 4 := by omega
      have hno : okB (mixI M k Y 4) = false := by
        rw [HM.out, HY.out]
        exact mix_no hb (by rw [Hl.out]; exact hkn) b0 b1 b2 b3 hy
      have r3 := Rd.of_own own
      have hsz := hB.size
      have hc3 : n + 4 ≤ c3 := by
        obtain ⟨A', c', e, h, _⟩ := own_rd own
        injection e with _ _ e
        omega
      have hbX : Byt (mixI M k Y 4) := mixI_byt hbM HYb.out
      clear own
      go_wp2_with fail
      refine (take_no _ (hT0.on hB) r3 hbX hc3 (by omega) hno).mono ?_
      rintro e w4 ⟨rfl, hb4⟩
      replace hB : Below w0.heap.size w0 w4 := hB.trans (hb4.mono hsz)
      clear hb4 hsz r3 hno hbX
      have hsz := hB.size
      by_cases h4 : n < 4
      · have hq : decide ((n : Int) < 4) = true := by simp; omega
        go_wp2_with fail
        refine (wakes_any _ (hT0.on hB)).mono ?_
        rintro e w' ⟨rfl, hbw⟩
        go_wp2_with fail
        go_ret
        exact ⟨rfl, HB0.out.trans ((hB.trans (hbw.mono hsz)).mono HB0.out.size)⟩
      · have hq : decide ((n : Int) < 4) = false := by simp; omega
        obtain ⟨k2, hk2, hk2', hk2n⟩ : ∃ k2 : Nat, Int.tmod (k : Int) ((n : Int) - 3) = (k2 : Int) ∧ (k : Int) % ((n : Int) - 3) = (k2 : Int) ∧ k2 + 4 ≤ n := by
          have h0 : (0 : Int) < (n : Int) - 3 := by omega
          have h1 : Int.tmod (k : Int) ((n : Int) - 3) = (k : Int) % ((n : Int) - 3) := Int.tmod_eq_emod_of_nonneg (by omega)
          have h2 := Int.emod_nonneg (k : Int) (show (n : Int) - 3 ≠ 0 by omega)
          have h3 := Int.emod_lt_of_pos (k : Int) h0
          exact ⟨((k : Int) % ((n : Int) - 3)).toNat, by omega, by omega, by omega⟩
        have hnz : ¬ ((n : Int) - 3 = 0) := by omega
        go_wp2_with (at_builtin; refine hold ?_)
        refine unhold (wpList_append_rd (.tmp 106) (.tmp 107) 25 Tryd.underlying25 hi hz0 hz1 hz2 byte_cells (own_empty w4 w0.heap.size 5 hsz) ((hr0.on hB hsz).below ((Below.refl _ w4).alloc (Nat.le_refl _) _)) (by unfold maxLen; omega) (by omega) (by simp; omega) rfl rfl rfl rfl ?_)
        intro v5 w5 L5
        have hB5 : Below w0.heap.size w0 w5 := L5.below (hB.alloc hsz _) (by simp; omega) (fun g hg => by simp [Value.ownBlock] at hg; omega)
        have own5 := L5.1
        rw [Nat.zero_add, List.nil_append] at own5
        obtain ⟨g', c5, rfl, hg5, hg5'⟩ := own5.form (show 0 < n by omega)
        have own0 : w5.ownsRow w0.heap.size 5 1 (.slice (some ⟨g', 0, none⟩) n c5) n ((mixI l k2 Y 0).map (Value.int .u8)) := own5
        clear L5 hB hsz own5 hg5' Hg
        have Hg := Lib.hid hg5
        go_wp2_with fail
        clear hk2 hk2' hnz
        go_loopw [15] (fun i wr => ∃ j : Nat, j ≤ 4 ∧ i = .int .i64 j ∧ wr.ownsRow w0.heap.size 5 1 (.slice (some ⟨g', 0, none⟩) n c5) n ((mixI l k2 Y j).map (Value.int .u8)) ∧ Below w0.heap.size w0 wr) (fun i _ => 4 - (intOf i).toNat)
        case atStart => exact ⟨0, by omega, rfl, own0, hB5⟩
        case round =>
          obtain ⟨j, hj, rfl, own, hB⟩ := hrel
          clear own0 hB5
          have hll : l.length = n := Hl.out
          by_cases hlt : j < 4
          · obtain ⟨p, hp⟩ : ∃ p : Nat, (k2 : Int) + (j : Int) = (p : Int) := ⟨k2 + j, by omega⟩
            have hpn : p < n := by omega
            have hpk : k2 + j = p := by omega
            have hp0 : (0 : Int) ≤ (p : Int) := by omega
            have hp1 : (p : Int) < (n : Int) := by omega
            obtain ⟨x, hx⟩ : ∃ x, l[p]?.getD 0 = x := ⟨_, rfl⟩
            obtain ⟨y, hy⟩ : ∃ y, Y[j]?.getD 0 = y := ⟨_, rfl⟩
            have hcb := (hB.cell (p := ⟨g0, j, none⟩) hlt0).trans (hbox j hlt)
            rw [hy] at hcb
            have hcd : wr.cell? ⟨g', p, none⟩ = some (.int .u8 x) := by
              rw [own.cellAt p (by omega), List.getElem?_map, mixI_out l k2 Y j p (by omega), List.getElem?_eq_getElem (by omega), ← hx, List.getElem?_eq_getElem (by omega)]
              rfl
            obtain ⟨own2, hg2⟩ := own.stored p (.int .u8 (bits .xor .u8 x y))
            rw [← List.map_set, show (mixI l k2 Y j).set p (bits .xor .u8 x y) = mixI l k2 Y (j + 1) by rw [mixI, hpk, hx, hy]] at own2
            have hfj := own.frozenAt p
            have Hown := Lib.hid own2
            clear own own2 hg2 hx hy hpk
            go_wp2_with fail
            go_region
            go_wp2
            go_roundw
            case rel => exact ⟨j + 1, by omega, by go_num, Hown.out, (hB.setCell Hg.out _).drew⟩
            case measure => simp [intOf]; omega
          · obtain rfl : j = 4 := by omega
            have hne : ¬ sumI (mixI l k2 Y 4) = sumI l := by
              rw [HY.out]
              exact mix_sum hb (by omega) b0 b1 b2 b3 hy
            have r5 := Rd.of_own own
            have hbX : Byt (mixI l k2 Y 4) := mixI_byt hb HYb.out
            have hsz := hB.size
            clear own
            go_wp2_with fail
            refine (sum_one _ _ _ (by simp) (hT0.on hB) r5 hbX (by omega)).mono ?_
            rintro e w6 ⟨rfl, hb6⟩
            replace hB : Below w0.heap.size w0 w6 := hB.trans (hb6.mono hsz)
            clear hb6 hsz r5
            have hsz := hB.size
            go_wp2_with fail
            refine (sum_one _ _ _ (by simp) (hT0.on hB) (hr0.on hB hsz) hb (by omega)).mono ?_
            rintro e w7 ⟨rfl, hb7⟩
            replace hB : Below w0.heap.size w0 w7 := hB.trans (hb7.mono hsz)
            clear hb7 hsz
            have hsz := hB.size
            go_wp2_with fail
            refine (wakes_any _ (hT0.on hB)).mono ?_
            rintro e w' ⟨rfl, hbw⟩
            go_wp2_with fail
            go_ret
            exact ⟨ret_bool (bne_iff_ne.2 hne), HB0.out.trans ((hB.trans (hbw.mono hsz)).mono HB0.out.size)⟩

theorem burst_all (A : Option Addr) (n c : Nat) (l : List Int) (at0 y0 y1 y2 y3 : Int) (w : World) (hT : Tab w) (hr : Rd w w.heap.size .u8 A n l) (hb : Byt l) (hnc : n ≤ c)
    (b0 : 0 ≤ y0 ∧ y0 ≤ 255) (b1 : 0 ≤ y1 ∧ y1 ≤ 255) (b2 : 0 ≤ y2 ∧ y2 ≤ 255) (b3 : 0 ≤ y3 ∧ y3 ≤ 255) :
    Calls Tryd.prog 4 #[.slice A n c, .int .i64 at0, .agg #[.int .u8 y0, .int .u8 y1, .int .u8 y2, .int .u8 y3]] w fun e w' => e = .returned (.bool true) ∧ Below w.heap.size w w' := by
  by_cases h : 400 < n ∨ (y0 = 0 ∧ y1 = 0 ∧ y2 = 0 ∧ y3 = 0)
  · exact burst_out A n c at0 y0 y1 y2 y3 w hT h
  · exact burst_in A n c l at0 y0 y1 y2 y3 w hT hr hb hnc (by omega) b0 b1 b2 b3 (fun h' => h (.inr h'))

end Go.Proofs.YtnojphkfniimgaaDoor
