/-
  The document's Pieces: its contract.
-/
import Derived.Test.YtdggacabjlengaaDoorPieces
namespace Go.Proofs.YtdggacabjlengaaDoor
open Go.RowKit
set_option linter.unusedVariables false
set_option linter.unusedSimpArgs false

theorem rchain_one {x y : Nat} {p : Int × Int} {A : Option Addr} {n c : Nat} {l : List Int} (w : World) (g : Nat) (t : TypeId) (hg : g = w.heap.size) (hp : Ga.From x y p) (hr : Rd w w.heap.size .u8 A n l) (hb : Byt l) (hn : n ≤ 140737488355328) :
    Calls Tryd.prog 32 #[.complex .f64 x y, .slice (some ⟨g, 0, none⟩) 1 1] (w.alloc (.cells #[.slice A n c] t)) fun e w' => Ga.ChainOut (Ga.chainP p l) e ∧ Below w.heap.size w w' := by
  have h := Ga.rchain_any 1 (ps := [⟨A, n, c, l⟩]) _ hp (Rds.made w t [⟨A, n, c, l⟩] hg (fun q hq => by
    obtain rfl := List.mem_singleton.1 hq
    exact ⟨hr, hb, hn⟩)) (by simp)
  rw [flat_cons, flat_nil, List.append_nil] at h
  exact h.mono fun e w' ⟨he, hB⟩ => ⟨he, hB ▸ (Below.refl _ w).alloc (Nat.le_refl _) _⟩


/-- The four bytes' box is no row of bytes. -/
theorem four_off {w2 w3 : World} {a b c e : Value} {base n m : Nat} {v : Value} {xs : List Value} (h : w3 = w2.alloc (.cells #[a, b, c, e] 55)) (hr : w3.ownsRow base 5 n v m xs) : some w2.heap.size ≠ v.ownBlock := by
  have hb : w3.heap[w2.heap.size]? = some (.cells #[a, b, c, e] 55 (0, 0)) := by rw [h]; exact World.alloc_heap_new _ _
  rcases hr.2 with ⟨e0, _⟩ | ⟨g, cap, cur, e0, _, hgb, _⟩
  · rw [e0]; simp [Value.ownBlock]
  · rw [e0]
    intro e1
    obtain rfl : w2.heap.size = g := by simpa [Value.ownBlock] using e1
    rw [hb] at hgb
    injection hgb with hgb
    injection hgb with _ h2 _
    exact absurd h2 (by decide)

theorem piece_next {l : List Int} {j : Nat} (hj : 4 * j < l.length) : pieceL (0, 0) (l.take (4 * (j + 1))) = pieceL (0, 0) (l.take (4 * j)) ++ (l.drop (4 * j)).take 4 ++ Ga.bytesP (Ga.chainP (0, 0) (l.take (4 * (j + 1)))) ∧ Ga.chainP (Ga.chainP (0, 0) (l.take (4 * j))) ((l.drop (4 * j)).take 4) = Ga.chainP (0, 0) (l.take (4 * (j + 1))) := by
  have e1 : l.take (4 * (j + 1)) = l.take (4 * j) ++ (l.drop (4 * j)).take 4 := by rw [Nat.mul_succ, List.take_add]
  have hl : (l.take (4 * j)).length = 4 * j := by rw [List.length_take]; omega
  have hne : (l.drop (4 * j)).take 4 ≠ [] := fun e => by
    have := congrArg List.length e
    rw [List.length_take, List.length_drop, List.length_nil] at this
    omega
  have hc := piece_cut (0, 0) (l.take (4 * (j + 1))) j (by rw [List.length_take]; omega)
  have t1 : (l.take (4 * (j + 1))).take (4 * j) = l.take (4 * j) := by rw [List.take_take, Nat.min_eq_left (by omega)]
  have d1 : (l.take (4 * (j + 1))).drop (4 * j) = (l.drop (4 * j)).take 4 := by rw [List.drop_take, Nat.mul_succ, Nat.add_sub_cancel_left]
  rw [t1, d1, piece_short hne (List.length_take_le _ _)] at hc
  refine ⟨?_, ?_⟩
  · rw [hc, e1, Ga.chainP_append, List.append_assoc]
  · rw [e1, Ga.chainP_append]

set_option maxRecDepth 100000 in
set_option maxHeartbeats 2000000 in
theorem rPieces_any (A : Option Addr) (n c : Nat) (l : List Int) (w : World) (hl : Rd w w.heap.size .u8 A n l) (hb : Byt l) (hnc : n ≤ c) (hn : n ≤ 1000000) :
    Calls Tryd.prog 15 #[.slice A n c] w (PiecesOut w l) := by
  obtain ⟨i0, hi, hz0, hz1, hz2⟩ := info_parts Nu.info_byte
  have Hl := Lib.hid (⟨hl, hb, hl.1⟩ : _ ∧ _ ∧ _)
  clear hl hb
  go_enter Tryd.func15, Tryd.ntmps15
  go_wp2_with fail
  go_loopw [3, 4, 5] (fun v zv i wr => ∃ (j : Nat) (x y N : Nat), 4 * j ≤ n + 3 ∧ i = .int .i64 ((4 * j : Nat) : Int) ∧ zv = .complex .f64 x y ∧ Ga.Pt x y (Ga.chainP (0, 0) (l.take (4 * j))) ∧ (pieceL (0, 0) (l.take (4 * j))).length = N ∧ wr.ownsRow w.heap.size 5 1 v N ((pieceL (0, 0) (l.take (4 * j))).map (Value.int .u8)) ∧ Below w.heap.size w wr) (fun _ _ i _ => n + 3 - (intOf i).toNat)
  case atStart => exact ⟨0, 0, 0, 0, by omega, rfl, rfl, Ga.pt_lit rfl rfl (by omega) (by omega), by simp [piece_nil], by simpa [piece_nil] using World.ownsRow_nil _ _ _ _, Below.refl _ _⟩
  obtain ⟨j, x, y, N, hjn, rfl, rfl, hpt, hN, hown, hB⟩ := hrel
  obtain ⟨A4, c4, rfl, hc4⟩ := own_slice hown
  obtain ⟨k, hk⟩ : ∃ k, k = 4 * j := ⟨_, rfl⟩
  by_cases hlt : 4 * j < n
  · obtain ⟨E, hE⟩ : ∃ E, E = min (k + 4) n := ⟨_, rfl⟩
    have hNle : N ≤ 10000000 := by
      rw [← hN, piece_len, List.length_take, Hl.out.2.2]; omega
    obtain ⟨x0, x1, x2, x3, hx⟩ : ∃ a b c e, Ga.bytesP (Ga.chainP (0, 0) (l.take (4 * (j + 1)))) = [a, b, c, e] := ⟨_, _, _, _, rfl⟩
    obtain ⟨hnx, hch⟩ := piece_next (l := l) (j := j) (by rw [Hl.out.2.2]; exact hlt)
    obtain ⟨q, hq⟩ : ∃ q, q = E - k := ⟨_, rfl⟩
    have hpr := ((Hl.out.1.on hB hB.size).first (m := E) (by omega)).cut_off (m := k) (cap := c) (by omega) (by omega) (by omega)
    have e4 : (l.take E).drop k = (l.drop (4 * j)).take 4 := by
      rw [List.drop_take, ← hk]
      apply List.ext_getElem?
      intro i
      simp only [List.getElem?_take, List.getElem?_drop]
      by_cases h1 : i < E - k
      · rw [if_pos h1, if_pos (by omega)]
      · rw [if_neg h1]
        split
        · exact (List.getElem?_eq_none (by rw [Hl.out.2.2]; omega)).symm
        · rfl
    rw [← hq] at hpr
    rw [e4] at hpr
    have hpb : Byt ((l.drop (4 * j)).take 4) := (Hl.out.2.1.drop _).take _
    have hlt2 : k < n := by omega
    have HB := Lib.hid (⟨hown, hB, hpt, hN, hx, hnx, hch, hpr, hpb, hq⟩ : _ ∧ _ ∧ _ ∧ _ ∧ _ ∧ _ ∧ _ ∧ _ ∧ _ ∧ _)
    have HK := Lib.hid (⟨hk, hjn, hE⟩ : _ ∧ _ ∧ _)
    have hq4 : q ≤ 4 := by omega
    rw [← hk]
    clear hown hB hpt hN hx hnx hch hpr hpb hk hE hjn e4 hq hlt
    go_wp2_with fail
    have hqe : (min ((k : Int) + 4) (n : Int)).toNat - k = q := by have h1 := HK.out.2.2; have h2 := HB.out.2.2.2.2.2.2.2.2.2; omega
    rw [hqe]
    obtain ⟨A', hA'⟩ : ∃ A', A' = Option.map (fun x => x.add k) A := ⟨_, rfl⟩
    obtain ⟨c', hc'⟩ : ∃ c', c' = c - k := ⟨_, rfl⟩
    have hpr := HB.out.2.2.2.2.2.2.2.1
    rw [← hA'] at hpr
    rw [← hA', ← hc']
    clear hA' hc' hqe
    refine (rchain_one wr wr.heap.size _ rfl (.inl HB.out.2.2.1) hpr HB.out.2.2.2.2.2.2.2.2.1 (by omega)).mono ?_
    rintro e w1 ⟨⟨u1, v1, rfl, hpt1⟩, hb1⟩
    rw [HB.out.2.2.2.2.2.2.1] at hpt1
    have H1 := Lib.hid (⟨hpt1, hb1, hpr⟩ : _ ∧ _ ∧ _)
    clear hpt1 hb1 hpr
    go_wp2_with fail
    refine (Ga.rbytes_out w1 H1.out.1 HB.out.2.2.2.2.1).mono ?_
    rintro e w2 ⟨rfl, hb2⟩
    obtain ⟨w3, hw3⟩ : ∃ x, x = w2.alloc (.cells #[.int .u8 x0, .int .u8 x1, .int .u8 x2, .int .u8 x3] 55) := ⟨_, rfl⟩
    have hf3 : Rd w3 w3.heap.size .u8 (some ⟨w2.heap.size, 0, none⟩) 4 [x0, x1, x2, x3] := by rw [hw3]; exact Rd.made w2 .u8 55 [x0, x1, x2, x3] rfl
    have hb12 := H1.out.2.1.trans (hb2.mono H1.out.2.1.size)
    have hb3 : Below wr.heap.size wr w3 := by rw [hw3]; exact hb12.alloc hb12.size _
    have own3 := own_keep HB.out.1 hb3
    have B3 := HB.out.2.1.trans (hb3.mono HB.out.2.1.size)
    have hp3 := H1.out.2.2.on hb3 hb3.size
    have H3 := Lib.hid (⟨hf3, own3, B3, hp3, (fun g hg => (own3.lt g hg).1 : ∀ g, (Value.slice A4 N c4).ownBlock = some g → w.heap.size ≤ g)⟩ : _ ∧ _ ∧ _ ∧ _ ∧ _)
    have HW3 := Lib.hid hw3
    clear hf3 hb12 hb3 own3 B3 hp3 hb2 hw3
    go_wp2_with fail
    rw [← HW3.out]
    refine wp_region_held_drew (S := (fun W => Below w.heap.size w W)) (by kernel_rfl) H3.out.2.2.1.drew (fun hHeld => ?_)
    refine take_at (i := 0) (d := 28) (oi := ?o35) (v := ?v35) ?hi35 ?hd35 (by kernel_rfl) (by kernel_rfl) (by kernel_rfl) ?hw35 ?hy35 ?hq35 (by assumption) ?r35
    case hi35 => (simp only [List.getElem?_toArray, List.getElem?_cons_zero]; rfl)
    case hd35 => rfl
    case hw35 => rfl
    case hy35 => ((intro w hSw; (try dsimp only at hSw); go_simp) <;> (with_reducible rfl))
    case hq35 => exact fun _ _ _ h => h
    simp only [List.set_cons_succ, List.set_cons_zero]
    refine take_at (i := 1) (d := 29) (oi := ?o36) (v := ?v36) ?hi36 ?hd36 (by kernel_rfl) (by kernel_rfl) (by kernel_rfl) ?hw36 ?hy36 ?hq36 (by assumption) ?r36
    case hi36 => (simp only [List.getElem?_toArray, List.getElem?_cons_succ, List.getElem?_cons_zero]; rfl)
    case hd36 => rfl
    case hw36 => rfl
    case hy36 => ((intro w hSw; (try dsimp only at hSw); go_simp) <;> (with_reducible rfl))
    case hq36 => exact fun _ _ _ h => h
    simp only [List.set_cons_succ, List.set_cons_zero]
    refine take_at (i := 3) (d := 31) (oi := ?o37) (v := ?v37) ?hi37 ?hd37 (by kernel_rfl) (by kernel_rfl) (by kernel_rfl) ?hw37 ?hy37 ?hq37 (by assumption) ?r37
    case hi37 => (simp only [List.getElem?_toArray, List.getElem?_cons_succ, List.getElem?_cons_zero]; rfl)
    case hd37 => rfl
    case hw37 => rfl
    case hy37 => ((intro w hSw; (try dsimp only at hSw); go_simp) <;> (with_reducible rfl))
    case hq37 => exact fun _ _ _ h => h
    simp only [List.set_cons_succ, List.set_cons_zero]
    obtain ⟨v5, w5, hrunA, LA⟩ := run_append (P := Tryd.prog) (c := c') (ty := 24) Tryd.underlying24 hi hz0 hz1 hz2 rfl (by decide) (show w3.drew.ownsRow _ _ _ _ _ _ from H3.out.2.1) (Source.rd (show Rd w3.drew w3.drew.heap.size _ _ _ _ from H3.out.2.2.2.1)) (by unfold maxLen; omega) (by omega) H3.out.2.2.1.size
    obtain ⟨A5, c5, rfl, hc5, own5, hB5, n5⟩ := Longer.more (B := w.heap.size) H3.out.2.2.1.drew H3.out.2.2.1.size H3.out.2.2.2.2 LA
    have g4 := LA.2.1
    have hf5 : Source w5 1 (some ⟨w2.heap.size, 0, none⟩) 4 ([x0, x1, x2, x3].map (Value.int .u8)) := (Source.rd (show Rd w3.drew w3.drew.heap.size _ _ _ _ from H3.out.1)).grown g4 (four_off HW3.out H3.out.2.1)
    refine wpAnyH_ready (rs := [2]) (by kernel_rfl) (by simp) ?_
    refine br_val (i := 2) (d := 30) (oi := ?o38) (v := (.slice A5 (N + q) c5)) (w' := w5) ?hi38 ?hd38 ?hw38 ?he38 hB5 ?hc38
    case hi38 => (simp only [List.getElem?_toArray, List.getElem?_cons_succ, List.getElem?_cons_zero]; rfl)
    case hd38 => rfl
    case hw38 => rfl
    case he38 => (exact exec_append rfl rfl rfl hrunA)
    intro hHeld
    simp only [List.set_cons_succ, List.set_cons_zero]
    obtain ⟨v6, w6, hrunB, LB⟩ := run_append (P := Tryd.prog) (c := 4) (ty := 24) Tryd.underlying24 hi hz0 hz1 hz2 rfl (by decide) own5 hf5 (by unfold maxLen; omega) (by omega) hB5.size
    obtain ⟨A6, c6, rfl, hc6, own6, hB6, n6⟩ := Longer.more (B := w.heap.size) hB5 hB5.size n5 LB
    refine wpAnyH_ready (rs := [4]) (by kernel_rfl) (by simp) ?_
    refine br_val (i := 4) (d := 32) (oi := ?o39) (v := (.slice A6 (N + q + 4) c6)) (w' := w6) ?hi39 ?hd39 ?hw39 ?he39 hB6 ?hc39
    case hi39 => (simp only [List.getElem?_toArray, List.getElem?_cons_succ, List.getElem?_cons_zero]; rfl)
    case hd39 => rfl
    case hw39 => rfl
    case he39 => (exact exec_append rfl rfl rfl hrunB)
    intro hHeld
    simp only [List.set_cons_succ, List.set_cons_zero]
    refine take_at (i := 5) (d := 3) (oi := ?o40) (v := ?v40) ?hi40 ?hd40 (by kernel_rfl) (by kernel_rfl) (by kernel_rfl) ?hw40 ?hy40 ?hq40 (by assumption) ?r40
    case hi40 => (simp only [List.getElem?_toArray, List.getElem?_cons_succ, List.getElem?_cons_zero]; rfl)
    case hd40 => rfl
    case hw40 => rfl
    case hy40 => ((intro w hSw; (try dsimp only at hSw); go_simp) <;> (with_reducible rfl))
    case hq40 => exact fun _ _ _ h => h
    simp only [List.set_cons_succ, List.set_cons_zero]
    refine wpAnyH_done (by kernel_rfl) ?_ _
    have H6 := Lib.hid (⟨own6, hB6⟩ : _ ∧ _)
    clear own6 hB6 n6 LB hrunB own5 hB5 n5 LA hrunA hf5 g4 hHeld hc5 hc6
    go_wp2_with fail
    go_roundw
    case rel =>
      obtain ⟨hown, hB, hpt, hN, hx, hnx, hch, hpr, hpb, hq⟩ := HB.out
      obtain ⟨hk, hjn, hE⟩ := HK.out
      have hlen : ((l.drop (4 * j)).take 4).length = q := by rw [hq, hE, List.length_take, List.length_drop, Hl.out.2.2]; omega
      refine ⟨j + 1, u1, v1, N + q + 4, by omega, by go_num, rfl, H1.out.1, ?_, ?_, H6.out.2⟩
      · rw [hnx, List.length_append, List.length_append, hN, hlen, bytesP_len]
      · rw [hnx, List.map_append, List.map_append, hx]
        exact H6.out.1
    case measure =>
      have := HK.out.1
      simp [intOf]; omega
  obtain ⟨hall, hlen⟩ : l.take (4 * j) = l ∧ 4 * j ≥ n := ⟨List.take_of_length_le (by rw [Hl.out.2.2]; omega), by omega⟩
  rw [hall] at hN hown
  have hnl : ¬ (k < n) := by omega
  have H7 := Lib.hid (⟨hown, hB, hN⟩ : _ ∧ _ ∧ _)
  rw [← hk]
  clear hown hB hpt hN hk hjn hlen hall hlt
  go_wp2_with fail
  go_ret
  exact ⟨A4, c4, N, rfl, H7.out.2.2, H7.out.1, H7.out.2.1⟩

end Go.Proofs.YtdggacabjlengaaDoor
