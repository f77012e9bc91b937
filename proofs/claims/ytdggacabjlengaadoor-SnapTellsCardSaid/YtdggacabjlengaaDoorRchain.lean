/-
  The document's chained: its contract.
-/
import Derived.Test.YtdggacabjlengaaDoorRplain
namespace Go.Proofs.YtdggacabjlengaaDoor
open Go.RowKit
set_option linter.unusedVariables false
set_option linter.unusedSimpArgs false

theorem strip_byt {l : List Int} (h : Byt l) : Byt (stripL l) := fun x hx => by
  obtain ⟨c, hc, hx⟩ := List.mem_flatten.1 hx
  obtain ⟨d, hd, rfl⟩ := List.mem_map.1 hc
  have h2 : x ∈ (chunks 8 l).flatten := List.mem_flatten.2 ⟨_, hd, List.mem_of_mem_take hx⟩
  rw [chunks_flat (by omega)] at h2
  exact h x h2
theorem strip_le (l : List Int) : (stripL l).length ≤ l.length := by
  refine chunks_ind (k := 8) (by omega) (M := fun l => (stripL l).length ≤ l.length) (by rw [strip_nil]; simp) (fun l hl ih => ?_) l
  rw [strip_cons hl, List.length_append, List.length_take, List.length_take]
  rw [List.length_drop] at ih
  omega
theorem takesP_nil : Nu.takesP [] 5 = ([], [], 10) := by rfl
/-- One round. -/
theorem strip_next {L text : List Int} {j E : Nat} (h : text ++ stripL (L.drop (8 * j)) = stripL L) (hlt : 8 * j < L.length) (hE : E = min (8 * j + 4) (max (L.length - 4) (8 * j))) : text ++ (L.take E).drop (8 * j) ++ stripL (L.drop (8 * (j + 1))) = stripL L := by
  have hne : L.drop (8 * j) ≠ [] := fun e => by
    have := congrArg List.length e
    rw [List.length_drop, List.length_nil] at this
    omega
  have e1 : (L.drop (8 * j)).take 8 = (L.drop (8 * j)).take 8 := rfl
  have e2 : ((L.drop (8 * j)).take 8).take (((L.drop (8 * j)).take 8).length - 4) = (L.take E).drop (8 * j) := by
    rw [List.take_take, List.drop_take, List.length_take, List.length_drop]
    apply List.ext_getElem?
    intro i
    simp only [List.getElem?_take, List.getElem?_drop]
    by_cases h1 : i < E - 8 * j
    · rw [if_pos h1, if_pos (by omega)]
    · rw [if_neg h1, if_neg (by omega)]
  rw [← h, strip_cons hne, e2, List.drop_drop, Nat.mul_succ, List.append_assoc]

set_option maxRecDepth 100000 in
set_option maxHeartbeats 4000000 in
theorem chained_any (A : Option Addr) (n c : Nat) (b : List Int) (w : World) (hl : Rd w w.heap.size .u8 A n b) (hb : Byt b) (hnc : n ≤ c) (hn : n ≤ 1000000) :
    Calls Tryd.prog 29 #[.slice A n c] w (StateOut 2 b w) := by
  obtain ⟨i0, hi, hz0, hz1, hz2⟩ := info_parts Nu.info_byte
  have Hl := Lib.hid (⟨hl, hb, hl.1⟩ : _ ∧ _ ∧ _)
  clear hl hb
  obtain ⟨z, hz⟩ : ∃ z, z = w.heap.size := ⟨_, rfl⟩
  obtain ⟨w0, hw0⟩ : ∃ w0, w0 = w.alloc (.cells #[.int .i64 0, .int .i64 0, .int .i64 0, .int .i64 0, .bool false] 23) := ⟨_, rfl⟩
  have hB0 : Below w.heap.size w w0 := by rw [hw0]; exact below_al (below_d0 w) _
  have b0 : BoxS w0 z noneP := by rw [hw0, hz]; exact BoxS.new w noneP
  have Hz := Lib.hid (show w.heap.size ≤ z by omega)
  have hs0 : w0.heap.size = z + 1 := by rw [hw0, hz]; simp
  obtain ⟨L, hL⟩ : ∃ L, L = b.drop 2 := ⟨_, rfl⟩
  have hLn : L.length = n - 2 := by rw [hL, List.length_drop, Hl.out.2.2]
  have H0 := Lib.hid (⟨hw0, hz, hB0, b0, hs0, hL, hLn⟩ : _ ∧ _ ∧ _ ∧ _ ∧ _ ∧ _ ∧ _)
  clear hw0 hz hB0 b0 hs0 hL hLn
  go_enter Tryd.func29, Tryd.ntmps29
  go_wp2_with fail
  rw [← H0.out.1, ← H0.out.2.1]
  go_loopw [4, 5] (fun v i wr => ∃ (j N : Nat) (text : List Int), 8 * j ≤ n + 6 ∧ i = .int .i64 ((8 * j + 2 : Nat) : Int) ∧ text ++ stripL (L.drop (8 * j)) = stripL L ∧ text.length = N ∧ wr.ownsRow (z + 1) 5 1 v N (text.map (Value.int .u8)) ∧ Below (z + 1) w0 wr) (fun _ i _ => n + 8 - (intOf i).toNat)
  case atStart => exact ⟨0, 0, [], by omega, rfl, rfl, rfl, World.ownsRow_nil _ _ _ _, Below.refl _ _⟩
  obtain ⟨j, N, text, hjn, rfl, hst, hN, hown, hB⟩ := hrel
  obtain ⟨A4, c4, rfl, hc4⟩ := own_slice hown
  obtain ⟨k, hk⟩ : ∃ k, k = 8 * j + 2 := ⟨_, rfl⟩
  have hNle : N ≤ 1000000 := by
    have h1 := strip_le L
    have h2 := congrArg List.length hst
    rw [List.length_append, hN] at h2
    have := H0.out.2.2.2.2.2.2
    omega
  by_cases hlt : k < n
  · obtain ⟨E, hE⟩ : ∃ E, E = min (k + 4) (max (n - 4) k) := ⟨_, rfl⟩
    obtain ⟨q, hq⟩ : ∃ q, q = E - k := ⟨_, rfl⟩
    have hpr := ((Hl.out.1.on (H0.out.2.2.1.trans (hB.mono (by have := H0.out.2.2.2.2.1; have := H0.out.2.2.1.size; omega))) (Nat.le_trans H0.out.2.2.1.size hB.size)).first (m := E) (by omega)).cut_off (m := k) (cap := c) (by omega) (by omega) (by omega)
    rw [← hq] at hpr
    have hnx : text ++ (b.take E).drop k ++ stripL (L.drop (8 * (j + 1))) = stripL L := by
      have h1 := strip_next (E := E - 2) hst (by have := H0.out.2.2.2.2.2.2; omega) (by have := H0.out.2.2.2.2.2.2; omega)
      have h2 : (L.take (E - 2)).drop (8 * j) = (b.take E).drop k := by
        rw [H0.out.2.2.2.2.2.1, List.drop_take, List.drop_take, List.drop_drop, hk]
        congr 1
        · omega
        · congr 1; omega
      rw [← h2]
      exact h1
    have hq4 : q ≤ 4 := by omega
    have HB := Lib.hid (⟨hown, hB, hN, hpr, hnx, hq⟩ : _ ∧ _ ∧ _ ∧ _ ∧ _ ∧ _)
    have HK := Lib.hid (⟨hk, hjn, hE⟩ : _ ∧ _ ∧ _)
    rw [← hk]
    clear hown hB hN hpr hnx hk hE hjn hq hst
    go_wp2_with (at_builtin; refine hold ?_)
    have hqe : (min ((k : Int) + 4) (max ((n : Int) - 4) (k : Int))).toNat - k = q := by have h1 := HK.out.2.2; have h2 := HB.out.2.2.2.2.2; omega
    rw [hqe]
    obtain ⟨A', hA'⟩ : ∃ A', A' = Option.map (fun x => x.add k) A := ⟨_, rfl⟩
    obtain ⟨c', hc'⟩ : ∃ c', c' = c - k := ⟨_, rfl⟩
    have hpr := HB.out.2.2.2.1
    rw [← hA'] at hpr
    rw [← hA', ← hc']
    clear hA' hc' hqe
    refine unhold (wpList_append (.tmp 15) (.tmp 26) 24 Tryd.underlying24 hi hz0 hz1 hz2 Nu.byte_cells (by decide) HB.out.1 (Source.rd hpr) (by unfold maxLen; omega) (by omega) (by have := HB.out.2.1.size; have := H0.out.2.2.2.2.1; omega) rfl rfl rfl rfl ?_)
    intro v6 w6 L6
    obtain ⟨A6, c6, rfl, hc6, own6, hB6, n6⟩ := Longer.more (B := z + 1) HB.out.2.1 (by have := HB.out.2.1.size; have := H0.out.2.2.2.2.1; omega) (fun g hg => (HB.out.1.lt g hg).1) L6
    have H6 := Lib.hid (⟨own6, hB6, hpr.1⟩ : _ ∧ _ ∧ _)
    clear own6 hB6 n6 L6 hc6 hpr
    go_wp2_with fail
    go_roundw
    case rel =>
      obtain ⟨hown, hB, hN, hpr, hnx, hq⟩ := HB.out
      obtain ⟨hk, hjn, hE⟩ := HK.out
      obtain ⟨own6, hB6, hlp⟩ := H6.out
      refine ⟨j + 1, N + q, text ++ (b.take E).drop k, by omega, by go_num, hnx, by rw [List.length_append, hN, hlp], ?_, hB6⟩
      rw [List.map_append]
      exact own6
    case measure =>
      have := HK.out.1
      simp [intOf]; omega
  have hdn : L.drop (8 * j) = [] := List.drop_of_length_le (by have := H0.out.2.2.2.2.2.2; omega)
  rw [hdn, strip_nil, List.append_nil] at hst
  subst hst
  have hbT : Byt (stripL L) := strip_byt (by rw [H0.out.2.2.2.2.2.1]; exact Hl.out.2.1.drop 2)
  have hrT : Rd wr wr.heap.size .u8 A4 N (stripL L) := Rd.of_own hown
  have hnl : ¬ (k < n) := hlt
  have bz : BoxS wr z noneP := (hB.block z (by omega)).trans H0.out.2.2.2.1
  have hBw : Below w.heap.size w wr := H0.out.2.2.1.trans (hB.mono (by have := H0.out.2.2.2.2.1; have := H0.out.2.2.1.size; omega))
  have H7 := Lib.hid (⟨hbT, hrT, bz, hBw⟩ : _ ∧ _ ∧ _ ∧ _)
  rw [← hk]
  clear hbT hrT bz hBw hown hB hdn hlt hjn hk hN
  go_wp2_with fail
  refine (Nu.rtakes_any A4 N c4 (stripL L) 5 wr H7.out.2.1 H7.out.1 (by omega) (by decide)).mono ?_
  rintro e w8 ⟨⟨v1, v2, rfl, hg1, hg2⟩, hb8⟩
  obtain ⟨l, hll⟩ : ∃ l, (Nu.takesP (stripL L) 5).1 = l := ⟨_, rfl⟩
  obtain ⟨rs, hrs⟩ : ∃ rs, (Nu.takesP (stripL L) 5).2.1 = rs := ⟨_, rfl⟩
  obtain ⟨er, her⟩ : ∃ er, (Nu.takesP (stripL L) 5).2.2 = er := ⟨_, rfl⟩
  rw [hll] at hg1
  rw [hrs] at hg2
  rw [her]
  obtain ⟨A8, c8, rfl, hc8, hr8⟩ := hg1
  obtain ⟨A9, c9, rfl, -, -⟩ := hg2
  obtain ⟨n8, hn8⟩ : ∃ n8, l.length = n8 := ⟨_, rfl⟩
  obtain ⟨n9, hn9⟩ : ∃ n9, rs.length = n9 := ⟨_, rfl⟩
  rw [hn8] at hc8 hr8 ⊢
  rw [hn9]
  have b8 := H7.out.2.2.1.below hb8
  have hB8 := H7.out.2.2.2.trans (hb8.mono H7.out.2.2.2.size)
  have hsn : ∀ s, IsSnap s 2 b → l = stN s ∧ rs = [] ∧ er = 0 := fun s hs => by
    have h1 := (two_of hs).2
    rw [← H0.out.2.2.2.2.2.1] at h1
    rw [h1] at hll hrs her
    exact ⟨hll.symm, hrs.symm, her.symm⟩
  by_cases hbad : er ≠ 0 ∨ n9 ≠ 0
  · have hno : ∀ s, ¬ IsSnap s 2 b := fun s hs => by
      obtain ⟨h1, h2, h3⟩ := hsn s hs
      rcases hbad with h | h
      · exact h h3
      · exact h (by rw [← hn9, h2]; rfl)
    obtain ⟨c0, c1, c2, c3, c4⟩ := b8.cells
    have f0 := b8.frozen 0
    have f1 := b8.frozen 1
    have f2 := b8.frozen 2
    have f3 := b8.frozen 3
    have f4 := b8.frozen 4
    have H9 := Lib.hid (⟨b8, hB8, hno⟩ : _ ∧ _ ∧ _)
    by_cases h0 : er = 0
    · subst h0
      have e9 : ((n9 : Int) != 0) = true := bne_iff_ne.2 (by rcases hbad with h | h; exact absurd rfl h; omega)
      clear b8 hB8 hno hsn hbad hb8 hll hrs her hn8 hn9 hr8 hc8
      go_wp2_with fail
      obtain ⟨W', hW'⟩ : ∃ x, x = putS w8 z noneP := ⟨_, rfl⟩
      have b9 := putS_box H9.out.1 noneP
      have hB9 := putS_below Hz.out noneP H9.out.2.1
      rw [← hW'] at b9 hB9
      obtain ⟨d0, d1, d2, d3, d4⟩ := b9.cells
      have e9 : W' = ((((w8.setCell ⟨z, 0, none⟩ (.int .i64 0)).setCell ⟨z, 1, none⟩ (.int .i64 0)).setCell ⟨z, 2, none⟩ (.int .i64 0)).setCell ⟨z, 3, none⟩ (.int .i64 0)).setCell ⟨z, 4, none⟩ (.bool false) := hW'
      rw [← e9]
      clear e9 hW' c0 c1 c2 c3 c4 f0 f1 f2 f3 f4
      exact bodyPost_ret (v := .tuple #[.agg #[.int .i64 0, .int .i64 0, .int .i64 0, .int .i64 0, .bool false], .bool false]) (by simp [results, Tryd.results29, go_sem, d0, d1, d2, d3, d4, noneP]) rfl ⟨.inr ⟨rfl, H9.out.2.2⟩, hB9⟩
    · have e0 : (er != 0) = true := by simpa using h0
      clear b8 hB8 hno hsn hbad hb8 hll hrs her hn8 hn9 hr8 hc8 h0
      go_wp2_with fail
      obtain ⟨W', hW'⟩ : ∃ x, x = putS w8 z noneP := ⟨_, rfl⟩
      have b9 := putS_box H9.out.1 noneP
      have hB9 := putS_below Hz.out noneP H9.out.2.1
      rw [← hW'] at b9 hB9
      obtain ⟨d0, d1, d2, d3, d4⟩ := b9.cells
      have e9 : W' = ((((w8.setCell ⟨z, 0, none⟩ (.int .i64 0)).setCell ⟨z, 1, none⟩ (.int .i64 0)).setCell ⟨z, 2, none⟩ (.int .i64 0)).setCell ⟨z, 3, none⟩ (.int .i64 0)).setCell ⟨z, 4, none⟩ (.bool false) := hW'
      rw [← e9]
      clear e9 hW' c0 c1 c2 c3 c4 f0 f1 f2 f3 f4
      exact bodyPost_ret (v := .tuple #[.agg #[.int .i64 0, .int .i64 0, .int .i64 0, .int .i64 0, .bool false], .bool false]) (by simp [results, Tryd.results29, go_sem, d0, d1, d2, d3, d4, noneP]) rfl ⟨.inr ⟨rfl, H9.out.2.2⟩, hB9⟩
  · obtain ⟨rfl, rfl⟩ : er = 0 ∧ n9 = 0 := ⟨Classical.byContradiction fun h => hbad (.inl h), Classical.byContradiction fun h => hbad (.inr h)⟩
    have h5 : n8 = 5 := by rw [← hn8, ← hll]; exact takes_len her
    subst h5
    obtain ⟨b3, o3, rfl, hb3l, hcell⟩ := hr8.at_ (by omega)
    have l0 := hcell 0 (by omega)
    have l1 := hcell 1 (by omega)
    have l2 := hcell 2 (by omega)
    have l3 := hcell 3 (by omega)
    have l4 := hcell 4 (by omega)
    rw [Nat.add_zero] at l0
    obtain ⟨x0, hx0⟩ : ∃ x, x = l[0]?.getD 0 := ⟨_, rfl⟩
    obtain ⟨x1, hx1⟩ : ∃ x, x = l[1]?.getD 0 := ⟨_, rfl⟩
    obtain ⟨x2, hx2⟩ : ∃ x, x = l[2]?.getD 0 := ⟨_, rfl⟩
    obtain ⟨x3, hx3⟩ : ∃ x, x = l[3]?.getD 0 := ⟨_, rfl⟩
    obtain ⟨x4, hx4⟩ : ∃ x, x = l[4]?.getD 0 := ⟨_, rfl⟩
    have hne : b3 ≠ z := by
      rintro rfl
      have h := hcell 0 (by omega)
      have h2 := hcell 1 (by omega)
      have h3 := hcell 2 (by omega)
      have h4 := hcell 3 (by omega)
      have h5 := hcell 4 (by omega)
      rw [cell_of_row _ _ _ _ _ _ b8] at h h5 h2 h3 h4
      match o3, h, h2, h3, h4, h5 with
      | 0, h, h2, h3, h4, h5 => simp at h5
      | 1, h, h2, h3, h4, h5 => simp at h5
      | 2, h, h2, h3, h4, h5 => simp at h4
      | 3, h, h2, h3, h4, h5 => simp at h3
      | 4, h, h2, h3, h4, h5 => simp at h
      | off + 5, h, h2, h3, h4, h5 => simp at h
    rw [← hx0] at l0
    rw [← hx1] at l1
    rw [← hx2] at l2
    rw [← hx3] at l3
    rw [← hx4] at l4
    obtain ⟨t, ht⟩ : ∃ t : StP, t = ⟨x0, x1, x2, x3, x4 == 1⟩ := ⟨_, rfl⟩
    have hto : t = stOf l := by rw [ht, hx0, hx1, hx2, hx3, hx4]; rfl
    have hts : ∀ s, IsSnap s 2 b → t = s := fun s hs => by rw [hto, (hsn s hs).1, stOf_stN]
    obtain ⟨c0, c1, c2, c3, c4⟩ := b8.cells
    have f0 := b8.frozen 0
    have f1 := b8.frozen 1
    have f2 := b8.frozen 2
    have f3 := b8.frozen 3
    have f4 := b8.frozen 4
    have H9 := Lib.hid (⟨b8, hB8, hts, ht⟩ : _ ∧ _ ∧ _ ∧ _)
    clear b8 hB8 hts ht hto hsn hbad hb8 hll hrs her hn8 hn9 hr8 hc8 hcell hb3l hx0 hx1 hx2 hx3 hx4
    go_wp2_with fail
    go_still_tail 17, (by kernel_rfl)
    change wpList _ _ _ _ _ w8.drew
    go_wp2_with fail
    obtain ⟨W', hW'⟩ : ∃ x, x = (putS w8 z t).drew := ⟨_, rfl⟩
    have b9 : BoxS W' z t := by rw [hW']; exact putS_box H9.out.1 t
    have hB9 : Below w.heap.size w W' := by rw [hW']; exact (putS_below Hz.out t H9.out.2.1).drew
    obtain ⟨d0, d1, d2, d3, d4⟩ := b9.cells
    have e9 : W' = (((((w8.setCell ⟨z, 0, none⟩ (.int .i64 x0)).setCell ⟨z, 1, none⟩ (.int .i64 x1)).setCell ⟨z, 2, none⟩ (.int .i64 x2)).setCell ⟨z, 3, none⟩ (.int .i64 x3)).setCell ⟨z, 4, none⟩ (.bool (x4 == 1))).drew := by rw [hW', H9.out.2.2.2]; rfl
    rw [← e9]
    clear e9 hW' c0 c1 c2 c3 c4 f0 f1 f2 f3 f4 l0 l1 l2 l3 l4
    exact bodyPost_ret (v := .tuple #[.agg #[.int .i64 t.ix, .int .i64 t.tm, .int .i64 t.sm, .int .i64 t.lv, .bool t.fn], .bool true]) (by simp [results, Tryd.results29, go_sem, d0, d1, d2, d3, d4]) rfl ⟨.inl ⟨t, rfl, H9.out.2.2.1⟩, hB9⟩

end Go.Proofs.YtdggacabjlengaaDoor
