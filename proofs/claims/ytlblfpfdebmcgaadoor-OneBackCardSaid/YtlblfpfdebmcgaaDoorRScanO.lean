/-
  moultref07.Scan: its contract.
-/
import Derived.Test.YtlblfpfdebmcgaaDoorScanO
import Derived.Test.YtlblfpfdebmcgaaDoorTakenO
namespace Go.Proofs.YtlblfpfdebmcgaaDoor
open Go.RowKit Go.Shelf
set_option linter.unusedVariables false

theorem recOf_take {b : List Int} (h : 15 ≤ b.length) : recOf (b.take 15) = recOf b := by
  have e1 : (b.take 15).take 15 = b.take 15 := by rw [List.take_take]; rfl
  have e2 : (b.take 15).take 11 = b.take 11 := by rw [List.take_take]; rfl
  have e3 : (b.take 15).length = 15 := by rw [List.length_take]; omega
  unfold recOf
  rw [e1, e2, e3]
  by_cases hc : Cr.okB (b.take 15) = true ∧ (Nu.longP ((b.take 11).take 5)).2.2 = 0 ∧ (Nu.longP ((b.take 11).drop 6)).2.2 = 0 ∧ RightP ⟨(Nu.longP ((b.take 11).take 5)).1, (b.take 11)[5]?.getD 0, (Nu.longP ((b.take 11).drop 6)).1⟩
  · rw [if_pos ⟨Nat.le_refl _, hc⟩, if_pos ⟨h, hc⟩]
  · rw [if_neg (fun h' => hc h'.2), if_neg (fun h' => hc h'.2)]
theorem cut_piece {P : Program} {t e : TypeId} {i : TypeInfo} (ht : P.underlying t = some (.slice e)) (hi : P.info? e = some i) (h1 : i.size = 1) (A : Option Addr) (n c j k : Nat) (hj : j ≤ k) (hk : k ≤ n) (hnc : n ≤ c) :
    ∃ A' c', (∀ W : World, (Instr.slice t (.slice A n c) (some (.int .i64 (j : Int))) (some (.int .i64 (k : Int))) none).run P W = .ok (.slice A' (k - j) c') W) ∧ k - j ≤ c' ∧ ∀ {w : World} {B : Nat} {kd : IntKind} {l : List Int}, Rd w B kd A n l → Rd w B kd A' (k - j) ((l.take k).drop j) := by
  have he : P.elem t = e := by simp [Program.elem, ht]
  have hu : P.underlying t = some (.slice (P.elem t)) := by rw [he]; exact ht
  refine ⟨if c = j then A else A.map (·.add j), c - j, fun W => ?_, by omega, fun h => (h.first hk).cut hj (by omega)⟩
  rw [run_slice_lh W t A n c hu .i64 .i64 (j : Int) (k : Int) (by omega) (by omega) (by omega), he]
  simp [sizeOf, run_typeInfo, hi, h1, sliced, go_sem]
def usedAt (w : World) (z : Nat) : Nat := match w.cell? ⟨z, 2, none⟩ with
  | some (.int _ u) => u.toNat
  | _ => 0

/-- Between two rounds. -/
structure DInv (w : World) (l : List Int) (f : Int) (r z : Nat) (pre : List EnP) (W : World) : Prop where
  bz : ∃ v, BoxC W z f v (6 + 15 * (pre.length : Int)) ∧ W.ownsRow w.heap.size 40 3 v pre.length (pre.flatMap EnP.cs)
  br : BoxC W r 0 (.slice none 0 0) 0
  low : Below w.heap.size w W
  sc : scanL (l.drop 6) = pre ++ scanL ((l.drop 6).drop (15 * pre.length))

set_option maxRecDepth 100000 in
set_option maxHeartbeats 2000000 in
theorem rscan_any (A : Option Addr) (n c : Nat) (l : List Int) (w : World) (hr : Rd w w.heap.size .u8 A n l) (hb : Byt l) (hnc : n ≤ c) (hn : n ≤ 1000000) :
    Calls Tryd.prog 19 #[.slice A n c] w (ScanT w (scanP l)) := by
  obtain ⟨i0, hi, hz0, hz1, hz2⟩ := info_parts Cr.info_u8
  obtain ⟨j0, hj, hy0, hy1, hy2⟩ := info_partsV info_entry
  have Hl := Lib.hid (⟨hr, hb, hr.1⟩ : _ ∧ _ ∧ _)
  obtain ⟨r, hr'⟩ : ∃ r, r = w.heap.size := ⟨_, rfl⟩
  obtain ⟨w0, hw0⟩ : ∃ w0, w0 = w.alloc (.cells #[.int .i64 0, .slice none 0 0, .int .i64 0] 33) := ⟨_, rfl⟩
  have hB0 : Below w.heap.size w w0 := by rw [hw0]; exact below_al (below_d0 w) _
  have b0 : BoxC w0 r 0 (.slice none 0 0) 0 := by rw [hw0, hr']; exact BoxC.new _ _ _ _
  have Hr := Lib.hid (show w.heap.size ≤ r ∧ r = w.heap.size by omega)
  have Hw := Lib.hid (⟨hr', hw0⟩ : _ ∧ _)
  obtain ⟨d0, d1, d2⟩ := b0.cells
  have f0 := b0.frozen 0
  have f1 := b0.frozen 1
  have f2 := b0.frozen 2
  have H0 := Lib.hid (⟨b0, hB0⟩ : _ ∧ _)
  clear b0 hB0
  rw [hr', hw0] at d0 d1 d2 f0 f1 f2
  clear hr' hw0
  by_cases h6 : n < 6
  · have HN := Lib.hid (scanP_none (headO_short (b := l) (by rw [Hl.out.2.2]; exact h6)))
    clear hr hb
    go_enter Tryd.func19, Tryd.ntmps19
    go_wp2_with fail
    rw [← Hw.out.1, ← Hw.out.2]
    clear d0 d1 d2
    obtain ⟨d0, d1, d2⟩ := H0.out.1.cells
    exact bodyPost_ret (v := .tuple #[.agg #[.int .i64 0, .slice none 0 0, .int .i64 0], .int .i64 11]) (by simp [results, Tryd.results19, go_sem, d0, d1, d2]) rfl (by rw [HN.out]; exact ⟨⟨none, 0, rfl, Nat.le_refl _, Row.nil⟩, H0.out.2⟩)
  · have hrA := hr.on H0.out.2 H0.out.2.size
    obtain ⟨b, off, rfl, hbl, hcell⟩ := hr.at_ (by omega)
    have hc0 := (H0.out.2.cell (p := ⟨b, off + 0, none⟩) hbl).trans (hcell 0 (by omega))
    rw [Nat.add_zero, Hw.out.2] at hc0
    clear hcell
    by_cases h1 : l[0]?.getD 0 = 1
    · have hr1 : Rd w0 w0.heap.size .u8 (some ⟨b, off + 1, none⟩) 5 ((l.take 6).drop 1) := Nu.Rd.cut_at (m := 1) (hrA.first (m := 6) (by omega)) (by omega)
      obtain ⟨x, hx⟩ : ∃ x, (Nu.longP ((l.take 6).drop 1)).1 = x := ⟨_, rfl⟩
      obtain ⟨e, he⟩ : ∃ e, (Nu.longP ((l.take 6).drop 1)).2.2 = e := ⟨_, rfl⟩
      have hbt : Byt ((l.take 6).drop 1) := (hb.take 6).drop 1
      have h5 : ((l.take 6).drop 1).take 5 = (l.take 6).drop 1 := List.take_of_length_le (by rw [hr1.1]; exact Nat.le_refl _)
      have hhd : headO l = if e = 0 ∧ 0 < x then some x else none := by
        unfold headO
        rw [hx, he]
        by_cases h : e = 0 ∧ 0 < x
        · rw [if_pos h, if_pos ⟨by rw [Hl.out.2.2]; omega, h1, h⟩]
        · rw [if_neg h, if_neg (fun h' => h h'.2.2)]
      have Hx := Lib.hid (⟨hr1, hbt, h5, hx, he, hhd, h1⟩ : _ ∧ _ ∧ _ ∧ _ ∧ _ ∧ _ ∧ _)
      clear hr1 hbt h5 hx he hhd hrA hr hb
      go_enter Tryd.func19, Tryd.ntmps19
      go_wp2_with fail
      rw [← Hw.out.1, ← Hw.out.2]
      rw [← Hw.out.1, ← Hw.out.2] at d0 d1 d2 f0 f1 f2
      refine (rtlong_any _ 5 _ _ w0 Hx.out.1 Hx.out.2.1 (by omega) (by omega) (by omega) (x := x) (e := e) (by rw [Hx.out.2.2.1]; exact Hx.out.2.2.2.1) (by rw [Hx.out.2.2.1]; exact Hx.out.2.2.2.2.1)).mono ?_
      rintro rr w1 ⟨⟨A', n', c', rfl, _⟩, hb1⟩
      have b1 := H0.out.1.below hb1
      have hB1 := H0.out.2.trans (hb1.mono H0.out.2.size)
      clear d0 d1 d2 f0 f1 f2
      obtain ⟨d0, d1, d2⟩ := b1.cells
      have f0 := b1.frozen 0
      have f1 := b1.frozen 1
      have f2 := b1.frozen 2
      have H1 := Lib.hid (⟨b1, hB1⟩ : _ ∧ _)
      have Hb1 := Lib.hid hb1
      clear b1 hB1 hb1 hc0
      by_cases he0 : e = 0
      · by_cases hp : 0 < x
        · have HS := Lib.hid (scanP_some (Hx.out.2.2.2.2.2.1.trans (if_pos ⟨he0, hp⟩)))
          subst he0
          have hlt : decide (x < 1) = false := by simp; omega
          go_wp2_with fail
          obtain ⟨z, hz⟩ : ∃ z, z = w1.heap.size := ⟨_, rfl⟩
          obtain ⟨w2, hw2⟩ : ∃ w2, w2 = w1.alloc (.cells #[.int .i64 x, .slice none 0 0, .int .i64 6] 33) := ⟨_, rfl⟩
          have h0 : DInv w l x r z [] w2 := ⟨⟨_, by rw [hw2, hz]; exact BoxC.new _ _ _ _, World.ownsRow_nil _ _ _ _⟩, H1.out.1.below (by rw [hw2]; exact (Below.refl _ _).alloc (Nat.le_refl _) _), (by rw [hw2]; exact H1.out.2.alloc H1.out.2.size _), by simp⟩
          rw [← hw2, ← hz]
          have Hrz := Lib.hid (show r < z ∧ w.heap.size ≤ z by have := H1.out.1.lt; have := H1.out.2.size; omega)
          clear hw2 hz d0 d1 d2 f0 f1 f2 hlt
          go_loopw [9] (fun _ wr => ∃ pre, DInv w l x r z pre wr) (fun _ wr => n + 15 - usedAt wr z)
          case atStart => exact ⟨[], h0⟩
          case round =>
            obtain ⟨pre, hI⟩ := hrel
            obtain ⟨v, hv, hrow⟩ := hI.bz
            obtain ⟨A4, c4, rfl, hc4⟩ := own_slice hrow
            obtain ⟨N, hN⟩ : ∃ N, N = pre.length := ⟨_, rfl⟩
            obtain ⟨q, hq⟩ : ∃ q : Nat, q = 6 + 15 * N := ⟨_, rfl⟩
            obtain ⟨p, hp'⟩ : ∃ p : Nat, p = q + 15 := ⟨_, rfl⟩
            rw [← hN] at hv hrow hc4
            rw [show 6 + 15 * (N : Int) = (q : Int) by omega] at hv
            have hroom : 15 * N ≤ n - 6 := by
              have h1 := scan_room hI.sc
              rw [List.length_drop, Hl.out.2.2, ← hN] at h1
              exact h1
            have hdq : (l.drop 6).drop (15 * pre.length) = l.drop q := by rw [List.drop_drop, ← hN, ← hq]
            obtain ⟨d0, d1, d2⟩ := hv.cells
            have hus : usedAt wr z = q := by unfold usedAt; rw [d2]; simp
            have hw1 : IntKind.i64.wrap ((q : Int) + 15) = (p : Int) := by rw [IntKind.wrap_i64] <;> omega
            have HQ := Lib.hid (⟨hN, hq⟩ : _ ∧ _)
            have Hp := Lib.hid (⟨hp', hroom, hdq, hus⟩ : _ ∧ _ ∧ _ ∧ _)
            have HI := Lib.hid (⟨hI, hv, hrow⟩ : _ ∧ _ ∧ _)
            clear hN hq hp' hroom hdq hI hv hrow h0 hus
            by_cases hlt : p ≤ n
            · have hle : decide ((p : Int) ≤ (n : Int)) = true := by simp; omega
              obtain ⟨A6, c6, hrun, hc6, hcut⟩ := cut_piece Tryd.underlying23 hi hz1 (some ⟨b, off, none⟩) n c q p (by have := Hp.out.1; omega) hlt hnc
              have hpq : p - q = 15 := by have := Hp.out.1; omega
              rw [hpq] at hrun hc6
              have hrd : Rd wr wr.heap.size .u8 A6 15 ((l.take p).drop q) := by
                have h1 := hcut (Hl.out.1.on HI.out.1.low HI.out.1.low.size)
                rwa [hpq] at h1
              have hrecq : recOf ((l.take p).drop q) = recOf (l.drop q) := by
                rw [List.drop_take, hpq]
                exact recOf_take (by rw [List.length_drop, Hl.out.2.2]; have := Hp.out.1; omega)
              have Hrd := Lib.hid (⟨hrd, (Hl.out.2.1.take p).drop q, hc6, hrecq⟩ : _ ∧ _ ∧ _ ∧ _)
              clear hrd hrecq hcut hpq
              go_wp2_with fail
              refine (taken_any A6 c6 _ wr Hrd.out.1 Hrd.out.2.1 Hrd.out.2.2.1).mono ?_
              rintro rr w3 ⟨⟨y, rfl, hy⟩, hb3⟩
              rw [Hrd.out.2.2.2] at hy ⊢
              have bz3 := HI.out.2.1.below hb3
              have br3 := HI.out.1.br.below hb3
              have row3 := own_keep HI.out.2.2 hb3
              have low3 := HI.out.1.low.trans (hb3.mono HI.out.1.low.size)
              unfold EnP.v
              obtain ⟨w4, hw4⟩ : ∃ w4, w4 = w3.alloc (.cells #[.int .i64 y.tm, .int .i64 y.kd, .int .i64 y.vl] 40) := ⟨_, rfl⟩
              have hb4 : Below w3.heap.size w3 w4 := by rw [hw4]; exact (Below.refl _ _).alloc (Nat.le_refl _) _
              have by4 : BoxE w4 w3.heap.size y := by rw [hw4]; exact BoxE.new w3 y
              have bz4 := bz3.below hb4
              have br4 := br3.below hb4
              have row4 := own_keep row3 hb4
              have low4 := low3.trans (hb4.mono low3.size)
              clear d0 d1 d2
              obtain ⟨d0, d1, d2⟩ := bz4.cells
              have f0 := br4.frozen 0
              have f1 := br4.frozen 1
              have f2 := br4.frozen 2
              obtain ⟨e0, e1, e2⟩ := br4.cells
              obtain ⟨k0, k1, k2⟩ := by4.cells
              have H4 := Lib.hid (⟨bz4, br4, row4, low4, hy, by4, hw4⟩ : _ ∧ _ ∧ _ ∧ _ ∧ _ ∧ _ ∧ _)
              rw [hw4] at d0 d1 d2 f0 f1 f2 e0 e1 e2 k0 k1 k2
              clear bz3 br3 row3 low3 hw4 hb4 by4 bz4 br4 row4 low4 hb3 hy
              cases hx : recOf (l.drop q) with
              | none =>
                have hfin : pre = scanL (l.drop 6) := scan_end HI.out.1.sc (by rw [Hp.out.2.2.1]; exact hx)
                have HF := Lib.hid hfin
                simp only [Option.isSome_none]
                clear hx hfin
                go_wp2_with fail
                rw [← H4.out.2.2.2.2.2.2]
                clear d0 d1 d2 f0 f1 f2 e0 e1 e2 k0 k1 k2
                have b1' := H4.out.2.1.s0 x
                have b2' := b1'.s1 (.slice A4 N c4)
                have b3' := b2'.s2 (q : Int)
                have hzr := Hr.out.1
                have r1' := H4.out.2.2.1.kept (setCell_grown _ r 0 (.int .i64 x)) (.inr (box_not_row H4.out.2.1 (by decide) H4.out.2.2.1).symm)
                have r2' := r1'.kept (setCell_grown _ r 1 (.slice A4 N c4)) (.inr (box_not_row b1' (by decide) r1').symm)
                have r3' := r2'.kept (setCell_grown _ r 2 (.int .i64 (q : Int))) (.inr (box_not_row b2' (by decide) r2').symm)
                have hB3' := ((H4.out.2.2.2.1.setCell (p := ⟨r, 0, none⟩) hzr (.int .i64 x)).setCell (p := ⟨r, 1, none⟩) hzr (.slice A4 N c4)).setCell (p := ⟨r, 2, none⟩) hzr (.int .i64 (q : Int))
                obtain ⟨m0, m1, m2⟩ := b3'.cells
                have hfin := HF.out
                refine bodyPost_ret (v := .tuple #[.agg #[.int .i64 x, .slice A4 N c4, .int .i64 (q : Int)], .int .i64 0]) (by simp [results, Tryd.results19, go_sem, m0, m1, m2]) rfl ?_
                rw [HS.out, ← hfin]
                have hNq := HQ.out.1
                have hqq := HQ.out.2
                refine ⟨⟨A4, c4, by rw [← hNq, show 6 + 15 * (N : Int) = (q : Int) by omega], by rw [← hNq]; exact hc4, ?_⟩, hB3'⟩
                rw [← hNq]
                exact Row.of_own (by decide) EnP.len r3'
              | some yy =>
                obtain rfl := H4.out.2.2.2.2.1 yy hx
                have hnx := scan_next HI.out.1.sc (by rw [Hp.out.2.2.1]; exact hx)
                have HF := Lib.hid hnx
                simp only [Option.isSome_some]
                clear hx hnx f0 f1 f2 e0 e1 e2
                go_wp2_with (at_builtin; refine hold ?_)
                rw [← H4.out.2.2.2.2.2.2] at d0 d1 d2 k0 k1 k2 ⊢
                refine unhold (wpList_append (.tmp 57) (.tmp 59) 22 Tryd.underlying22 hj hy0 hy1 hy2 rfl (by decide) (H4.out.2.2.1.alloc _) (Source.one (cs := [.int .i64 y.tm, .int .i64 y.kd, .int .i64 y.vl]) (t := 40) (w := w4) (g := w3.heap.size + 1) rfl (by simp [Value.oneCell']) (by rw [H4.out.2.2.2.2.2.2]; simp)) (by have := Hp.out.2.1; unfold maxLen; omega) (by have := Hp.out.2.1; omega) (by have := H4.out.2.2.2.1.size; simp; omega) rfl rfl rfl rfl ?_)
                intro v' w5 L5
                obtain ⟨A5, c5, rfl, _⟩ := own_slice L5.1
                have hzz := Hrz.out
                obtain ⟨q1, q2, q3, q4, q5, q6⟩ := scan_step (u' := (p : Int)) H4.out.1 H4.out.2.2.1 H4.out.2.2.2.1.size (by omega) L5.1 L5.2.1
                have q7 := q1.s1 (.slice A5 (N + 1) c5)
                have f1 := q1.frozen 1
                have f2 := q7.frozen 2
                obtain ⟨p0, p1, p2⟩ := q1.cells
                obtain ⟨s0, s1, s2⟩ := q7.cells
                have H6 := Lib.hid (⟨q2, q3, q5, q6 r _ _ _ (by omega) (by decide) H4.out.2.1⟩ : _ ∧ _ ∧ _ ∧ _)
                clear q1 q2 q3 q4 q5 q6 q7 L5 d0 d1 d2 k0 k1 k2 hzz
                go_wp2_with fail
                go_roundw
                case rel =>
                  have hlen : (pre ++ [y]).length = N + 1 := by rw [List.length_append, HQ.out.1]; rfl
                  refine ⟨pre ++ [y], ⟨⟨.slice A5 (N + 1) c5, ?_, ?_⟩, H6.out.2.2.2, H4.out.2.2.2.1.trans H6.out.2.2.1, HF.out⟩⟩
                  · rw [hlen, Int.natCast_add, show 6 + 15 * ((N : Int) + ((1 : Nat) : Int)) = (p : Int) by have := HQ.out.2; have := Hp.out.1; omega]
                    exact H6.out.1
                  · rw [hlen, List.flatMap_append]
                    exact H6.out.2.1
                case measure =>
                  have e1 := Hp.out.2.2.2
                  have e2 : usedAt ((w5.setCell ⟨z, 1, none⟩ (.slice A5 (N + 1) c5)).setCell ⟨z, 2, none⟩ (.int .i64 (p : Int))) z = p := by
                    unfold usedAt
                    rw [H6.out.1.cells.2.2]
                    simp
                  have := Hp.out.1
                  omega
            · have hle : decide ((p : Int) ≤ (n : Int)) = false := by simp; omega
              have hfin : pre = scanL (l.drop 6) := scan_end HI.out.1.sc (recOf_short (by rw [Hp.out.2.2.1, List.length_drop, Hl.out.2.2]; have := Hp.out.1; omega))
              have HF := Lib.hid hfin
              have f0 := HI.out.1.br.frozen 0
              have f1 := HI.out.1.br.frozen 1
              have f2 := HI.out.1.br.frozen 2
              obtain ⟨e0, e1, e2⟩ := HI.out.1.br.cells
              clear hfin
              go_wp2_with fail
              clear d0 d1 d2 f0 f1 f2 e0 e1 e2
              have b1' := HI.out.1.br.s0 x
              have b2' := b1'.s1 (.slice A4 N c4)
              have b3' := b2'.s2 (q : Int)
              have hzr := Hr.out.1
              have r1' := HI.out.2.2.kept (setCell_grown _ r 0 (.int .i64 x)) (.inr (box_not_row HI.out.1.br (by decide) HI.out.2.2).symm)
              have r2' := r1'.kept (setCell_grown _ r 1 (.slice A4 N c4)) (.inr (box_not_row b1' (by decide) r1').symm)
              have r3' := r2'.kept (setCell_grown _ r 2 (.int .i64 (q : Int))) (.inr (box_not_row b2' (by decide) r2').symm)
              have hB3' := ((HI.out.1.low.setCell (p := ⟨r, 0, none⟩) hzr (.int .i64 x)).setCell (p := ⟨r, 1, none⟩) hzr (.slice A4 N c4)).setCell (p := ⟨r, 2, none⟩) hzr (.int .i64 (q : Int))
              obtain ⟨m0, m1, m2⟩ := b3'.cells
              have hfin := HF.out
              refine bodyPost_ret (v := .tuple #[.agg #[.int .i64 x, .slice A4 N c4, .int .i64 (q : Int)], .int .i64 0]) (by simp [results, Tryd.results19, go_sem, m0, m1, m2]) rfl ?_
              rw [HS.out, ← hfin]
              have hNq := HQ.out.1
              have hqq := HQ.out.2
              refine ⟨⟨A4, c4, by rw [← hNq, show 6 + 15 * (N : Int) = (q : Int) by omega], by rw [← hNq]; exact hc4, ?_⟩, hB3'⟩
              rw [← hNq]
              exact Row.of_own (by decide) EnP.len r3'
        · have HN := Lib.hid (scanP_none (Hx.out.2.2.2.2.2.1.trans (if_neg (fun h => hp h.2))))
          subst he0
          have hlt : x < 1 := by omega
          go_wp2_with fail
          have hz := Hr.out.1
          have b3 := ((H1.out.1.s0 0).s1 (.slice none 0 0)).s2 0
          have hB3 := ((H1.out.2.setCell (p := ⟨r, 0, none⟩) hz (.int .i64 0)).setCell (p := ⟨r, 1, none⟩) hz (.slice none 0 0)).setCell (p := ⟨r, 2, none⟩) hz (.int .i64 0)
          clear d0 d1 d2
          obtain ⟨d0, d1, d2⟩ := b3.cells
          exact bodyPost_ret (v := .tuple #[.agg #[.int .i64 0, .slice none 0 0, .int .i64 0], .int .i64 11]) (by simp [results, Tryd.results19, go_sem, d0, d1, d2]) rfl (by rw [HN.out]; exact ⟨⟨none, 0, rfl, Nat.le_refl _, Row.nil⟩, hB3⟩)
      · have HN := Lib.hid (scanP_none (Hx.out.2.2.2.2.2.1.trans (if_neg (fun h => he0 h.1))))
        have q1 : (e != 0) = true := by simpa using he0
        clear he0
        go_wp2_with fail
        have hz := Hr.out.1
        have b3 := ((H1.out.1.s0 0).s1 (.slice none 0 0)).s2 0
        have hB3 := ((H1.out.2.setCell (p := ⟨r, 0, none⟩) hz (.int .i64 0)).setCell (p := ⟨r, 1, none⟩) hz (.slice none 0 0)).setCell (p := ⟨r, 2, none⟩) hz (.int .i64 0)
        clear d0 d1 d2
        obtain ⟨d0, d1, d2⟩ := b3.cells
        exact bodyPost_ret (v := .tuple #[.agg #[.int .i64 0, .slice none 0 0, .int .i64 0], .int .i64 11]) (by simp [results, Tryd.results19, go_sem, d0, d1, d2]) rfl (by rw [HN.out]; exact ⟨⟨none, 0, rfl, Nat.le_refl _, Row.nil⟩, hB3⟩)
    · have HN := Lib.hid (scanP_none (b := l) (by unfold headO; rw [if_neg (fun h => h1 h.2.1)]))
      have hq : (l[0]?.getD 0 != 1) = true := by simpa using h1
      clear hr hb hrA
      go_enter Tryd.func19, Tryd.ntmps19
      go_wp2_with fail
      rw [← Hw.out.1, ← Hw.out.2]
      clear d0 d1 d2
      obtain ⟨d0, d1, d2⟩ := H0.out.1.cells
      exact bodyPost_ret (v := .tuple #[.agg #[.int .i64 0, .slice none 0 0, .int .i64 0], .int .i64 11]) (by simp [results, Tryd.results19, go_sem, d0, d1, d2]) rfl (by rw [HN.out]; exact ⟨⟨none, 0, rfl, Nat.le_refl _, Row.nil⟩, H0.out.2⟩)

end Go.Proofs.YtlblfpfdebmcgaaDoor
