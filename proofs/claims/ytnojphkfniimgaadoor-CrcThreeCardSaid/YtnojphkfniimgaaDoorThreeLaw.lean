/-
  CrcThree's walk: it returns true, and turns nothing that lay.
-/
import Derived.Test.YtnojphkfniimgaaDoorXor
namespace Go.Proofs.YtnojphkfniimgaaDoor
open Go.RowKit

set_option maxRecDepth 100000 in
set_option maxHeartbeats 1000000 in
theorem three_out (A : Option Addr) (n c : Nat) (A' : Option Addr) (n' c' : Nat) (A'' : Option Addr) (n'' c'' : Nat) (s t h k : Int) (w : World) (hT : Tab w) (ho : 400 < n ∨ n' ≠ n ∨ n'' ≠ n) :
    Calls Tryd.prog 6 #[.slice A n c, .slice A' n' c', .slice A'' n'' c'', .int .u32 s, .int .u32 t, .int .u8 h, .int .u8 k] w fun e w' => e = .returned (.bool true) ∧ Below w.heap.size w w' := by
  by_cases h1 : 400 < n
  · have hd : decide ((400 : Int) < (n : Int)) = true := by simp; omega
    clear ho h1
    go_enter Tryd.func6, Tryd.ntmps6
    go_wp2_with fail
    refine (wakes_any _ hT).mono ?_
    rintro e w' ⟨rfl, hb⟩
    go_wp2_with fail
    go_ret
    exact ⟨rfl, hb⟩
  · have hd : decide ((400 : Int) < (n : Int)) = false := by simp; omega
    by_cases h2 : n' = n
    · have h3 : ((n'' : Int) == (n : Int)) = false := by simp; omega
      subst h2
      clear ho h1
      go_enter Tryd.func6, Tryd.ntmps6
      go_wp2_with fail
      refine (wakes_any _ hT).mono ?_
      rintro e w' ⟨rfl, hb⟩
      go_wp2_with fail
      go_ret
      exact ⟨rfl, hb⟩
    · have h3 : ((n' : Int) == (n : Int)) = false := by simp; omega
      clear ho h1 h2
      go_enter Tryd.func6, Tryd.ntmps6
      go_wp2_with fail
      refine (wakes_any _ hT).mono ?_
      rintro e w' ⟨rfl, hb⟩
      go_wp2_with fail
      go_ret
      exact ⟨rfl, hb⟩

set_option maxRecDepth 100000 in
set_option maxHeartbeats 1000000 in
theorem three_in (A : Option Addr) (n c : Nat) (l : List Int) (A' : Option Addr) (c' : Nat) (m : List Int) (A'' : Option Addr) (c'' : Nat) (o : List Int) (s t h k : Int) (w : World) (hT : Tab w)
    (hr : Rd w w.heap.size .u8 A n l) (hl : Byt l) (hr' : Rd w w.heap.size .u8 A' n m) (hm : Byt m) (hr'' : Rd w w.heap.size .u8 A'' n o) (ho : Byt o) (hs : 0 ≤ s ∧ s < 4294967296) (ht : 0 ≤ t ∧ t < 4294967296) (hh : 0 ≤ h ∧ h ≤ 255) (hk : 0 ≤ k ∧ k ≤ 255) (hn : n ≤ 400) :
    Calls Tryd.prog 6 #[.slice A n c, .slice A' n c', .slice A'' n c'', .int .u32 s, .int .u32 t, .int .u8 h, .int .u8 k] w fun e w' => e = .returned (.bool true) ∧ Below w.heap.size w w' := by
  have hd : decide ((400 : Int) < (n : Int)) = false := by simp; omega
  obtain ⟨i0, hi, hz0, hz1, hz2⟩ := info_parts info_u8
  obtain ⟨z, e1, e2⟩ := sum_three_xor (l := l) (m := m) (o := o) (by rw [hr.1, hr'.1]) (by rw [hr.1, hr''.1]) hl hm ho
  obtain ⟨y, q, e3, e4, hy, hq, e5⟩ := step_three hs ht hh hk
  obtain ⟨L, hL⟩ : ∃ L, L = xorI (xorI l m) o := ⟨_, rfl⟩
  rw [← hL] at e2
  have h1 : (xorI l m).length = n := (xorI_length (by rw [hr.1, hr'.1])).trans hr.1
  have HL := Lib.hid (show L.length = n by rw [hL, xorI_length (by rw [h1, hr''.1]), h1])
  have HB := Lib.hid (show Byt L by rw [hL]; exact xorI_byt (xorI_byt hl hm) ho)
  have HA := Lib.hid (show ∀ k, k < n → L[k]? = some (bits .xor .u8 (bits .xor .u8 (l[k]?.getD 0) (m[k]?.getD 0)) (o[k]?.getD 0)) from fun k hk => by
    have r1 := hl.at_ k
    have r2 := hm.at_ k
    rw [hL, xorI_at (by rw [h1]; exact hk) (by rw [hr''.1]; exact hk), xorI_at (by rw [hr.1]; exact hk) (by rw [hr'.1]; exact hk), xor_int r1 r2, xor_int (xor_int_range _ _ r1 r2) (ho.at_ k)]
    rfl)
  clear hL h1
  go_enter Tryd.func6, Tryd.ntmps6
  go_wp2_with (at_make; refine hold ?_)
  refine unhold (wpList_make_mine rfl (.tmp 35) (.tmp 35) rfl Tryd.underlying25 hi hz0 hz1 hz2 rfl rfl (by omega) ?_)
  intro w1 own1 hB1
  go_wp2_with fail
  obtain ⟨g, hg⟩ : ∃ g, g = w.heap.size := ⟨_, rfl⟩
  have own0 : w1.ownsRow w.heap.size 5 1 (.slice (some ⟨g, 0, none⟩) n n) n ((L.take 0 ++ List.replicate (n - 0) (0 : Int)).map (Value.int .u8)) := by rw [hg]; exact own1
  rw [← hg]
  have Hg := Lib.hid (show w.heap.size ≤ g by omega)
  clear own1 hg
  go_loopw [17] (fun i wr => ∃ j : Nat, j ≤ n ∧ i = .int .i64 j ∧ wr.ownsRow w.heap.size 5 1 (.slice (some ⟨g, 0, none⟩) n n) n ((L.take j ++ List.replicate (n - j) (0 : Int)).map (Value.int .u8)) ∧ Below w.heap.size w wr) (fun i _ => n - (intOf i).toNat)
  case atStart => exact ⟨0, by omega, rfl, own0, hB1⟩
  case round =>
    obtain ⟨j, hj, rfl, own, hB⟩ := hrel
    clear own0 hB1
    by_cases hlt : j < n
    · obtain ⟨b1, f1, rfl, g1, k1⟩ := hr.at_ (by omega)
      obtain ⟨b2, f2, rfl, g2, k2⟩ := hr'.at_ (by omega)
      obtain ⟨b3, f3, rfl, g3, k3⟩ := hr''.at_ (by omega)
      have q1 : ∀ W, Below w.heap.size w W → W.cell? ⟨b1, f1 + j, none⟩ = some (.int .u8 (l[j]?.getD 0)) := fun W hW => (hW.cell (p := ⟨b1, f1 + j, none⟩) g1).trans (k1 j hlt)
      have q2 : ∀ W, Below w.heap.size w W → W.cell? ⟨b2, f2 + j, none⟩ = some (.int .u8 (m[j]?.getD 0)) := fun W hW => (hW.cell (p := ⟨b2, f2 + j, none⟩) g2).trans (k2 j hlt)
      have q3 : ∀ W, Below w.heap.size w W → W.cell? ⟨b3, f3 + j, none⟩ = some (.int .u8 (o[j]?.getD 0)) := fun W hW => (hW.cell (p := ⟨b3, f3 + j, none⟩) g3).trans (k3 j hlt)
      obtain ⟨own2, hg2⟩ := own.stored j (.int .u8 (bits .xor .u8 (bits .xor .u8 (l[j]?.getD 0) (m[j]?.getD 0)) (o[j]?.getD 0)))
      rw [← List.map_set, fill_set HL.out hlt (HA.out j hlt)] at own2
      have hfj := own.frozenAt j
      have Hown := Lib.hid own2
      obtain ⟨u, hcj⟩ : ∃ u, wr.cell? ⟨g, j, none⟩ = some u := by
        have h1 := own.cellAt j (by omega)
        have h2 := own.1
        rw [List.getElem?_eq_getElem (by omega)] at h1
        exact ⟨_, h1⟩
      clear own own2 hg2 k1 k2 k3
      go_wp2_with fail
      go_region_held3 (fun W => Below w.heap.size w W)
        (first | assumption | exact Below.drew (by assumption) | exact Below.setCell (by assumption) Hg.out _ | exact Below.drew (Below.setCell (by assumption) Hg.out _))
        (first | fail)
      go_wp2
      go_roundw
      case rel => exact ⟨j + 1, by omega, by go_num, Hown.out, by assumption⟩
      case measure => simp [intOf]; omega
    · obtain rfl : j = n := by omega
      rw [fill_all HL.out] at own
      have r0 := Rd.of_own own
      clear own
      have hsz := hB.size
      go_wp2_with fail
      refine (sum_one _ _ _ (by simp) (hT.on hB) r0 HB.out (by omega)).mono ?_
      rintro e w2 ⟨rfl, hb⟩
      replace hB : Below w.heap.size w w2 := hB.trans (hb.mono hsz)
      clear hb hsz r0
      have hsz := hB.size
      go_wp2_with fail
      refine (sum_one _ _ _ (by simp) (hT.on hB) (hr.on hB hsz) hl (by omega)).mono ?_
      rintro e w3 ⟨rfl, hb⟩
      replace hB : Below w.heap.size w w3 := hB.trans (hb.mono hsz)
      clear hb hsz
      have hsz := hB.size
      go_wp2_with fail
      refine (sum_one _ _ _ (by simp) (hT.on hB) (hr'.on hB hsz) hm (by omega)).mono ?_
      rintro e w4 ⟨rfl, hb⟩
      replace hB : Below w.heap.size w w4 := hB.trans (hb.mono hsz)
      clear hb hsz
      have hsz := hB.size
      go_wp2_with fail
      refine (sum_one _ _ _ (by simp) (hT.on hB) (hr''.on hB hsz) ho (by omega)).mono ?_
      rintro e w5 ⟨rfl, hb⟩
      replace hB : Below w.heap.size w w5 := hB.trans (hb.mono hsz)
      clear hb hsz
      have hsz := hB.size
      go_wp2_with fail
      refine (step_out y q _ (hT.on hB) hy hq).mono ?_
      rintro e w6 ⟨rfl, hb⟩
      replace hB : Below w.heap.size w w6 := hB.trans (hb.mono hsz)
      clear hb hsz
      have hsz := hB.size
      go_wp2_with fail
      refine (step_out s h _ (hT.on hB) hs hh).mono ?_
      rintro e w7 ⟨rfl, hb⟩
      replace hB : Below w.heap.size w w7 := hB.trans (hb.mono hsz)
      clear hb hsz
      have hsz := hB.size
      go_wp2_with fail
      refine (step_out t k _ (hT.on hB) ht hk).mono ?_
      rintro e w8 ⟨rfl, hb⟩
      replace hB : Below w.heap.size w w8 := hB.trans (hb.mono hsz)
      clear hb hsz
      have hsz := hB.size
      go_wp2_with fail
      refine (wakes_any _ (hT.on hB)).mono ?_
      rintro e w' ⟨rfl, hbw⟩
      go_wp2_with fail
      go_ret
      exact ⟨rfl, hB.trans (hbw.mono hsz)⟩

theorem three_all (A : Option Addr) (n c : Nat) (l : List Int) (A' : Option Addr) (n' c' : Nat) (m : List Int) (A'' : Option Addr) (n'' c'' : Nat) (o : List Int) (s t h k : Int) (w : World) (hT : Tab w)
    (hr : Rd w w.heap.size .u8 A n l) (hl : Byt l) (_hnc : n ≤ c) (hr' : Rd w w.heap.size .u8 A' n' m) (hm : Byt m) (_hnc' : n' ≤ c') (hr'' : Rd w w.heap.size .u8 A'' n'' o) (ho : Byt o) (_hnc'' : n'' ≤ c'') (hs : 0 ≤ s ∧ s < 4294967296) (ht : 0 ≤ t ∧ t < 4294967296) (hh : 0 ≤ h ∧ h ≤ 255) (hk : 0 ≤ k ∧ k ≤ 255) :
    Calls Tryd.prog 6 #[.slice A n c, .slice A' n' c', .slice A'' n'' c'', .int .u32 s, .int .u32 t, .int .u8 h, .int .u8 k] w fun e w' => e = .returned (.bool true) ∧ Below w.heap.size w w' := by
  by_cases h1 : 400 < n ∨ n' ≠ n ∨ n'' ≠ n
  · exact three_out A n c A' n' c' A'' n'' c'' s t h k w hT h1
  · obtain rfl : n' = n := by omega
    obtain rfl : n'' = n' := by omega
    exact three_in A _ c l A' c' m A'' c'' o s t h k w hT hr hl hr' hm hr'' ho hs ht hh hk (by omega)

end Go.Proofs.YtnojphkfniimgaaDoor
