/-
  SnapPieces: it returns true.
-/
import Derived.Test.YtdggacabjlengaaDoorBack9
namespace Go.Proofs.YtdggacabjlengaaDoor
open Go.RowKit
set_option linter.unusedVariables false
set_option linter.unusedSimpArgs false

/-- The pieces of a text that has more behind it begin with its own, where it is of whole pieces. -/
theorem piece_first {l m : List Int} {k : Nat} (h : l.length = 4 * k) : (piecesL (l ++ m)).take (piecesL l).length = piecesL l := by
  have h1 := piece_cut (0, 0) (l ++ m) k (by rw [List.length_append]; omega)
  rw [← h, List.take_left] at h1
  unfold piecesL
  rw [h1, List.take_left]
theorem take_more (l : List Int) (j : Nat) : l.take (4 * j) ++ (l.drop (4 * j)).take 4 = l.take (4 * (j + 1)) := by
  rw [Nat.mul_succ, List.take_add]

theorem len_nums {n lp : Nat} (hn : n ≤ 100) (h : lp = n + (n + 3) / 4 * 4) : ((lp : Int) != (n : Int) + ((n : Int) + 3) / 4 * 4) = false ∧ lp ≤ 300 := by
  have e : (lp : Int) = (n : Int) + ((n : Int) + 3) / 4 * 4 := by omega
  exact ⟨by rw [← e]; simp, by omega⟩

set_option maxRecDepth 100000 in
set_option maxHeartbeats 4000000 in
theorem pieces_law (A : Option Addr) (n c : Nat) (l : List Int) (A' : Option Addr) (n' c' : Nat) (m : List Int) (w : World) (hT : Cr.Tab w) (hl : Rd w w.heap.size .u8 A n l) (hb : Byt l) (hnc : n ≤ c) (hl' : Rd w w.heap.size .u8 A' n' m) (hb' : Byt m) (hnc' : n' ≤ c') :
    Calls Tryd.prog 7 #[.slice A n c, .slice A' n' c'] w fun e w' => e = .returned (.bool true) ∧ Below w.heap.size w w' := by
  obtain ⟨i0, hi, hz0, hz1, hz2⟩ := info_parts Nu.info_byte
  have Hl := Lib.hid (⟨hl, hb, hl.1, hl', hb', hl'.1, hT⟩ : _ ∧ _ ∧ _ ∧ _ ∧ _ ∧ _ ∧ _)
  clear hl hb hl' hb' hT
  by_cases hb0 : 100 < n
  · have t0 : decide ((100 : Int) < (n : Int)) = true := by simp; omega
    go_enter Tryd.func7, Tryd.ntmps7
    go_wp2_with fail
    refine Calls.mono (wakes_true w Hl.out.2.2.2.2.2.2) ?_
    rintro e w1 ⟨rfl, hb1⟩
    go_wp2_with fail
    go_ret
    exact ⟨rfl, hb1⟩
  have t0 : decide ((100 : Int) < (n : Int)) = false := by simp; omega
  by_cases hb1 : 100 < n'
  · have t1 : decide ((100 : Int) < (n' : Int)) = true := by simp; omega
    go_enter Tryd.func7, Tryd.ntmps7
    go_wp2_with fail
    refine Calls.mono (wakes_true w Hl.out.2.2.2.2.2.2) ?_
    rintro e w1 ⟨rfl, hb1⟩
    go_wp2_with fail
    go_ret
    exact ⟨rfl, hb1⟩
  have t1 : decide ((100 : Int) < (n' : Int)) = false := by simp; omega
  have hn : n ≤ 100 := by omega
  have hn' : n' ≤ 100 := by omega
  clear hb0 hb1
  go_enter Tryd.func7, Tryd.ntmps7
  go_wp2_with fail
  refine (Pieces_any A n c l w Hl.out.1 Hl.out.2.1 hnc (by omega)).mono ?_
  rintro e w1 ⟨A1, c1, lp, rfl, hlp, own1, B1⟩
  have hpl : lp = n + (n + 3) / 4 * 4 := by rw [← hlp, piecesL, piece_len, Hl.out.2.2.1]
  obtain ⟨_, _, e1, hc1, r1⟩ := own_rd own1
  cases e1
  obtain ⟨f4, hlb⟩ := len_nums hn hpl
  have HP := Lib.hid (⟨hlp, own1, B1, hpl, hc1, r1⟩ : _ ∧ _ ∧ _ ∧ _ ∧ _ ∧ _)
  clear hlp own1 B1 r1
  clear hpl
  go_wp2_with fail
  clear f4 t0 t1
  go_loopw [6, 7] (fun v i wr => ∃ (j N : Nat), 8 * j ≤ lp + 7 ∧ i = .int .i64 ((8 * j : Nat) : Int) ∧ (l.take (4 * j)).length = N ∧ wr.ownsRow w1.heap.size 5 1 v N ((l.take (4 * j)).map (Value.int .u8)) ∧ Below w1.heap.size w1 wr) (fun _ i _ => lp + 8 - (intOf i).toNat)
  case atStart => exact ⟨0, 0, by omega, rfl, rfl, World.ownsRow_nil _ _ _ _, Below.refl _ _⟩
  obtain ⟨j, N, hjn, rfl, hN, hown, hB⟩ := hrel
  obtain ⟨A4, c4, rfl, hc4⟩ := own_slice hown
  obtain ⟨k, hk⟩ : ∃ k, k = 8 * j := ⟨_, rfl⟩
  have hNle : N ≤ 100 := by
    have h2 := List.length_take_le (4 * j) l
    have h3 : (l.take (4 * j)).length ≤ l.length := by rw [List.length_take]; omega
    have h4 := Hl.out.2.2.1
    omega
  by_cases hlt : k < lp
  · obtain ⟨E, hE⟩ : ∃ E, E = min (k + 4) (lp - 4) := ⟨_, rfl⟩
    obtain ⟨q, hq⟩ : ∃ q, q = E - k := ⟨_, rfl⟩
    have h4j : 4 * j < n ∧ k ≤ lp - 4 ∧ 4 ≤ lp := by have := HP.out.2.2.2.1; omega
    have hpr := ((HP.out.2.2.2.2.2.on hB hB.size).first (m := E) (by omega)).cut_off (m := k) (cap := c1) (by omega) (by omega) (by have := HP.out.2.2.2.2.1; omega)
    rw [← hq] at hpr
    have hpa : ((piecesL l).take E).drop k = (l.drop (4 * j)).take 4 := by
      rw [List.drop_take, hE, hk, ← HP.out.1]
      exact piece_at (by rw [Hl.out.2.2.1]; exact h4j.1)
    rw [hpa] at hpr
    have hq4 : q ≤ 4 := by omega
    have HB := Lib.hid (⟨hown, hB, hN, hpr, hq⟩ : _ ∧ _ ∧ _ ∧ _ ∧ _)
    have HK := Lib.hid (⟨hk, hjn, hE, h4j⟩ : _ ∧ _ ∧ _ ∧ _)
    have u1 : k ≤ lp - 4 := h4j.2.1
    have u2 : 4 ≤ lp := h4j.2.2
    rw [← hk]
    clear hown hB hN hpr hk hE hjn hq hpa h4j
    go_wp2_with (at_builtin; refine hold ?_)
    have hqe : (min ((k : Int) + 4) ((lp : Int) - 4)).toNat - k = q := by have h1 := HK.out.2.2.1; have h2 := HB.out.2.2.2.2; omega
    rw [hqe]
    obtain ⟨A2, hA2⟩ : ∃ A2, A2 = Option.map (fun x => x.add k) A1 := ⟨_, rfl⟩
    obtain ⟨c2, hc2⟩ : ∃ c2, c2 = c1 - k := ⟨_, rfl⟩
    have hpr := HB.out.2.2.2.1
    rw [← hA2] at hpr
    rw [← hA2, ← hc2]
    clear hA2 hc2 hqe
    refine unhold (wpList_append (.tmp 37) (.tmp 46) 24 Tryd.underlying24 hi hz0 hz1 hz2 Nu.byte_cells (by decide) HB.out.1 (Source.rd hpr) (by unfold maxLen; omega) (by omega) (by have := HB.out.2.1.size; omega) rfl rfl rfl rfl ?_)
    intro v6 w6 L6
    obtain ⟨A6, c6, rfl, hc6, own6, hB6, n6⟩ := Longer.more (B := w1.heap.size) HB.out.2.1 HB.out.2.1.size (fun g hg => (HB.out.1.lt g hg).1) L6
    have H6 := Lib.hid (⟨own6, hB6, hpr.1⟩ : _ ∧ _ ∧ _)
    clear own6 hB6 n6 L6 hc6 hpr
    go_wp2_with fail
    go_roundw
    case rel =>
      obtain ⟨hown, hB, hN, hpr, hq⟩ := HB.out
      obtain ⟨hk, hjn, hE⟩ := HK.out
      obtain ⟨own6, hB6, hlp⟩ := H6.out
      refine ⟨j + 1, N + q, by omega, by go_num, ?_, ?_, hB6⟩
      · rw [← take_more, List.length_append, hN, hlp]
      · rw [← take_more, List.map_append]
        exact own6
    case measure =>
      have := HK.out.1
      simp [intOf]; omega
  have hjl : l.length ≤ 4 * j := by have := HP.out.2.2.2.1; have := Hl.out.2.2.1; omega
  rw [List.take_of_length_le hjl] at hN hown
  obtain rfl : n = N := Hl.out.2.2.1.symm.trans hN
  have r4 : Rd wr wr.heap.size .u8 A4 n l := Rd.of_own hown
  have hnl : ¬ (k < lp) := hlt
  have hBw : Below w.heap.size w wr := HP.out.2.2.1.trans (hB.mono HP.out.2.2.1.size)
  have hlw : Rd wr wr.heap.size .u8 A n l := Hl.out.1.on hBw hBw.size
  have sm := same_any A4 A n n c4 c l l wr r4 hlw Hl.out.2.1 Hl.out.2.1
  rw [show eqB l l = true from eqB_true rfl] at sm
  have H7 := Lib.hid (⟨r4, hlw, Hl.out.2.2.2.1.on hBw hBw.size, hBw, HP.out.2.2.2.2.2.on hB hB.size, sm⟩ : _ ∧ _ ∧ _ ∧ _ ∧ _ ∧ _)
  rw [← hk]
  clear r4 hlw hBw sm hown hB hlt hjn hk hN hjl
  go_wp2_with fail
  refine Calls.mono H7.out.2.2.2.2.2 ?_
  rintro e wv ⟨rfl, rfl⟩
  go_wp2_with (at_builtin; refine hold ?_)
  refine unhold (wpList_append (.tmp 52) (.tmp 53) 24 Tryd.underlying24 hi hz0 hz1 hz2 Nu.byte_cells (by decide) (own_empty wr wr.heap.size 5 1 (Nat.le_refl _)) ((Source.rd H7.out.2.1).alloc _) (by unfold maxLen; omega) (by omega) (by simp) rfl rfl rfl rfl ?_)
  intro va w8 La
  obtain ⟨A8, c8, rfl, hc8, own8, b8, n8⟩ := La.made
  have H8 := Lib.hid (⟨own8, b8, n8⟩ : _ ∧ _ ∧ _)
  clear own8 b8 n8 La
  go_wp2_with (at_builtin; refine hold ?_)
  refine unhold (wpList_append (.tmp 54) (.tmp 55) 24 Tryd.underlying24 hi hz0 hz1 hz2 Nu.byte_cells (by decide) H8.out.1 (Source.rd (H7.out.2.2.1.on H8.out.2.1 H8.out.2.1.size)) (by unfold maxLen; omega) (by omega) (by have := H8.out.2.1.size; omega) rfl rfl rfl rfl ?_)
  intro vb w9 Lb
  obtain ⟨A9, c9, rfl, hc9, own9, b9, n9⟩ := Longer.more (B := wr.heap.size) H8.out.2.1 H8.out.2.1.size H8.out.2.2 Lb
  have r9 := own_bytes (m := 0) own9
  have H9 := Lib.hid (⟨b9, r9⟩ : _ ∧ _)
  clear own9 b9 n9 Lb r9
  go_wp2_with fail
  refine (Pieces_any A9 (n + n') c9 (l ++ m) w9 H9.out.2 (Hl.out.2.1.append Hl.out.2.2.2.2.1) hc9 (by omega)).mono ?_
  rintro e w10 ⟨A10, c10, lq, rfl, hlq, own10, B10⟩
  have hql : lq = (n + n') + ((n + n') + 3) / 4 * 4 := by rw [← hlq, piecesL, piece_len, List.length_append, Hl.out.2.2.1, Hl.out.2.2.2.2.2.1]
  obtain ⟨_, _, e1, hc10, r10⟩ := own_rd own10
  cases e1
  have hBa : Below wr.heap.size wr w10 := H9.out.1.trans (B10.mono H9.out.1.size)
  have hBz : Below w.heap.size w w10 := H7.out.2.2.2.1.trans (hBa.mono H7.out.2.2.2.1.size)
  obtain ⟨r, hr⟩ : ∃ r, r = n % 4 := ⟨_, rfl⟩
  have htm : Int.tmod (n : Int) 4 = (r : Int) := by rw [Int.tmod_eq_emod_of_nonneg (by omega)]; omega
  have hge : lp ≤ lq := by have := HP.out.2.2.2.1; omega
  have hpq : r = 0 → Rd w10 w10.heap.size .u8 A10 lp (piecesL l) := fun h0 => by
    have h1 := r10.first (m := lp) hge
    rw [← HP.out.1, piece_first (k := n / 4) (by rw [Hl.out.2.2.1]; omega), HP.out.1] at h1
    exact h1
  have H10 := Lib.hid (⟨hBz, hpq, H7.out.2.2.2.2.1.on hBa hBa.size, hr⟩ : _ ∧ _ ∧ _ ∧ _)
  have hbq : lq ≤ 700 := by omega
  have hcut := Cr.cut_first Tryd.underlying24 hi hz1 A10 lq c10 lp (by omega)
  clear hBz hpq own10 B10 hlq hql r10 hBa hr
  by_cases h0 : r = 0
  · have rq := H10.out.2.1 h0
    have ra := H10.out.2.2.1
    have hz := H10.out.1
    have HQ := Lib.hid (⟨rq, ra, hz⟩ : _ ∧ _ ∧ _)
    clear rq ra hz H10
    subst h0
    have d0 : decide ((lp : Int) ≤ (lq : Int)) = true := by simp; omega
    go_wp2_with fail
    have sm := same_any A10 A1 lp lp c10 c1 (piecesL l) (piecesL l) w10 HQ.out.1 HQ.out.2.1 (piece_byt zeroIn Hl.out.2.1) (piece_byt zeroIn Hl.out.2.1)
    rw [show eqB (piecesL l) (piecesL l) = true from eqB_true rfl] at sm
    refine Calls.mono sm ?_
    rintro e wv ⟨rfl, rfl⟩
    clear sm hcut
    go_wp2_with fail
    refine Calls.mono (wakes_true w10 (Hl.out.2.2.2.2.2.2.on HQ.out.2.2)) ?_
    rintro e wz ⟨rfl, hbz⟩
    go_wp2_with fail
    go_ret
    exact ⟨rfl, HQ.out.2.2.trans (hbz.mono HQ.out.2.2.size)⟩
  · have d0 : ((r : Int) != 0) = true := by simp; omega
    clear hcut
    go_wp2_with fail
    refine Calls.mono (wakes_true w10 (Hl.out.2.2.2.2.2.2.on H10.out.1)) ?_
    rintro e wz ⟨rfl, hbz⟩
    go_wp2_with fail
    go_ret
    exact ⟨rfl, H10.out.1.trans (hbz.mono H10.out.1.size)⟩

end Go.Proofs.YtdggacabjlengaaDoor
