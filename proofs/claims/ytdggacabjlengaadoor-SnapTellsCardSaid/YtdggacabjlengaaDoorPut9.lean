/-
  snap.final, Text, the document's: their contracts.
-/
import Derived.Test.YtdggacabjlengaaDoorSnapS
namespace Go.Proofs.YtdggacabjlengaaDoor
open Go.RowKit
set_option linter.unusedVariables false
set_option linter.unusedSimpArgs false

set_option maxRecDepth 100000 in
theorem final_any (s : StP) (w : World) : Calls Tryd.prog 35 #[s.v] w fun r w' => r = .returned (.int .i64 (bitI s.fn)) ∧ Below w.heap.size w w' := by
  obtain ⟨i, t, m, l, fn⟩ := s
  unfold StP.v
  cases fn <;> (
    go_enter Tryd.func35, Tryd.ntmps35
    go_wp2_with fail
    go_ret
    exact ⟨rfl, (Below.refl _ _).alloc (Nat.le_refl _) _⟩)
set_option maxRecDepth 100000 in
theorem bit_any (b : Bool) (w : World) : Calls Tryd.prog 25 #[.bool b] w fun r w' => r = .returned (.int .u8 (bitI b)) ∧ w' = w := by
  cases b <;> (
    go_enter Tryd.func25, Tryd.ntmps25
    go_wp2_with fail
    go_ret
    exact ⟨rfl, rfl⟩)

set_option maxRecDepth 100000 in
set_option maxHeartbeats 1000000 in
theorem Text_any (s : StP) (w : World) : Calls Tryd.prog 16 #[s.v] w (Told w (textP s)) := by
  obtain ⟨wx, hwx⟩ : ∃ wx, wx = w.alloc (.cells #[.int .i64 s.ix, .int .i64 s.tm, .int .i64 s.sm, .int .i64 s.lv, .bool s.fn] 23) := ⟨_, rfl⟩
  obtain ⟨z, hz⟩ : ∃ z, z = w.heap.size := ⟨_, rfl⟩
  have bx : BoxS wx z s := by rw [hwx, hz]; exact BoxS.new w s
  have hBx : Below w.heap.size w wx := by rw [hwx]; exact (Below.refl _ w).alloc (Nat.le_refl _) _
  have kx := bx.cells
  obtain ⟨k0, k1, k2, k3, k4⟩ := kx
  have hfc := fine_any s wx
  have Hf := Lib.hid hfc
  clear hfc
  unfold StP.v at Hf ⊢
  have H := Lib.hid (⟨hwx, hz, bx, hBx⟩ : _ ∧ _ ∧ _ ∧ _)
  rw [hwx, hz] at k0 k1 k2 k3 k4
  clear hwx hz bx hBx
  go_enter Tryd.func16, Tryd.ntmps16
  go_wp2_with fail
  rw [← H.out.1, ← H.out.2.1]
  refine Hf.out.mono ?_
  rintro e w2 ⟨rfl, hb2⟩
  obtain ⟨hwx, hz, bx, hBx⟩ := H.out
  have b2 := bx.below hb2
  have hB2 := hBx.trans (hb2.mono hBx.size)
  obtain ⟨k0, k1, k2, k3, k4⟩ := b2.cells
  cases hF : fineB s with
  | false =>
    have H2 := Lib.hid (⟨textP_no hF, hB2⟩ : _ ∧ _)
    clear b2 hB2 hb2 bx hBx k0 k1 k2 k3 k4 hwx hz
    go_wp2_with fail
    go_ret2
    exact Told.none_ H2.out.1 H2.out.2
  | true =>
    obtain ⟨R, hR⟩ : ∃ R, Nu.shortsOf [s.ix, s.tm, s.sm, s.lv, bitI s.fn] = R := ⟨_, rfl⟩
    obtain ⟨q, hq⟩ : ∃ q, R.length = q := ⟨_, rfl⟩
    have H2 := Lib.hid (⟨textP_yes hF, hB2, b2, (show Nu.allNum [s.ix, s.tm, s.sm, s.lv, bitI s.fn] = true from fine_nums hF), hR, hq⟩ : _ ∧ _ ∧ _ ∧ _ ∧ _ ∧ _)
    clear hB2 hb2 bx hBx hwx hz k0 k1 k2 k3 k4 b2 hF hR hq
    go_wp2_with fail
    refine wp_region_held_drew (S := (fun W => Below w2.heap.size w2 W)) (by kernel_rfl) (below_dr (below_d0 _)) (fun hHeld => ?_)
    refine take_at (i := 0) (d := 7) (oi := ?o1) (v := ?v1) ?hi1 ?hd1 (by kernel_rfl) (by kernel_rfl) (by kernel_rfl) ?hw1 ?hy1 ?hq1 (by assumption) ?r1
    case hi1 => (simp only [List.getElem?_toArray, List.getElem?_cons_zero]; rfl)
    case hd1 => rfl
    case hw1 => rfl
    case hy1 => ((intro w hSw; (try dsimp only at hSw); go_simp) <;> (with_reducible rfl))
    case hq1 => exact fun _ _ _ h => h
    simp only [List.set_cons_succ, List.set_cons_zero]
    refine take_at (i := 1) (d := 8) (oi := ?o2) (v := ?v2) ?hi2 ?hd2 (by kernel_rfl) (by kernel_rfl) (by kernel_rfl) ?hw2 ?hy2 ?hq2 (by assumption) ?r2
    case hi2 => (simp only [List.getElem?_toArray, List.getElem?_cons_succ, List.getElem?_cons_zero]; rfl)
    case hd2 => rfl
    case hw2 => rfl
    case hy2 => ((intro w hSw; (try dsimp only at hSw); obtain ⟨k0, k1, k2, k3, k4⟩ := (H2.out.2.2.1.below hSw).cells; clear hSw; go_simp) <;> (with_reducible rfl))
    case hq2 => exact fun _ _ _ h => h
    simp only [List.set_cons_succ, List.set_cons_zero]
    refine take_at (i := 2) (d := 9) (oi := ?o3) (v := ?v3) ?hi3 ?hd3 (by kernel_rfl) (by kernel_rfl) (by kernel_rfl) ?hw3 ?hy3 ?hq3 (by assumption) ?r3
    case hi3 => (simp only [List.getElem?_toArray, List.getElem?_cons_succ, List.getElem?_cons_zero]; rfl)
    case hd3 => rfl
    case hw3 => rfl
    case hy3 => ((intro w hSw; (try dsimp only at hSw); go_simp) <;> (with_reducible rfl))
    case hq3 => exact fun _ _ _ h => h
    simp only [List.set_cons_succ, List.set_cons_zero]
    refine take_at (i := 3) (d := 10) (oi := ?o4) (v := ?v4) ?hi4 ?hd4 (by kernel_rfl) (by kernel_rfl) (by kernel_rfl) ?hw4 ?hy4 ?hq4 (by assumption) ?r4
    case hi4 => (simp only [List.getElem?_toArray, List.getElem?_cons_succ, List.getElem?_cons_zero]; rfl)
    case hd4 => rfl
    case hw4 => rfl
    case hy4 => ((intro w hSw; (try dsimp only at hSw); obtain ⟨k0, k1, k2, k3, k4⟩ := (H2.out.2.2.1.below hSw).cells; clear hSw; go_simp) <;> (with_reducible rfl))
    case hq4 => exact fun _ _ _ h => h
    simp only [List.set_cons_succ, List.set_cons_zero]
    refine take_at (i := 4) (d := 11) (oi := ?o5) (v := ?v5) ?hi5 ?hd5 (by kernel_rfl) (by kernel_rfl) (by kernel_rfl) ?hw5 ?hy5 ?hq5 (by assumption) ?r5
    case hi5 => (simp only [List.getElem?_toArray, List.getElem?_cons_succ, List.getElem?_cons_zero]; rfl)
    case hd5 => rfl
    case hw5 => rfl
    case hy5 => ((intro w hSw; (try dsimp only at hSw); go_simp) <;> (with_reducible rfl))
    case hq5 => exact fun _ _ _ h => h
    simp only [List.set_cons_succ, List.set_cons_zero]
    refine take_at (i := 5) (d := 12) (oi := ?o6) (v := ?v6) ?hi6 ?hd6 (by kernel_rfl) (by kernel_rfl) (by kernel_rfl) ?hw6 ?hy6 ?hq6 (by assumption) ?r6
    case hi6 => (simp only [List.getElem?_toArray, List.getElem?_cons_succ, List.getElem?_cons_zero]; rfl)
    case hd6 => rfl
    case hw6 => rfl
    case hy6 => ((intro w hSw; (try dsimp only at hSw); obtain ⟨k0, k1, k2, k3, k4⟩ := (H2.out.2.2.1.below hSw).cells; clear hSw; go_simp) <;> (with_reducible rfl))
    case hq6 => exact fun _ _ _ h => h
    simp only [List.set_cons_succ, List.set_cons_zero]
    refine take_at (i := 6) (d := 13) (oi := ?o7) (v := ?v7) ?hi7 ?hd7 (by kernel_rfl) (by kernel_rfl) (by kernel_rfl) ?hw7 ?hy7 ?hq7 (by assumption) ?r7
    case hi7 => (simp only [List.getElem?_toArray, List.getElem?_cons_succ, List.getElem?_cons_zero]; rfl)
    case hd7 => rfl
    case hw7 => rfl
    case hy7 => ((intro w hSw; (try dsimp only at hSw); go_simp) <;> (with_reducible rfl))
    case hq7 => exact fun _ _ _ h => h
    simp only [List.set_cons_succ, List.set_cons_zero]
    refine take_at (i := 7) (d := 14) (oi := ?o8) (v := ?v8) ?hi8 ?hd8 (by kernel_rfl) (by kernel_rfl) (by kernel_rfl) ?hw8 ?hy8 ?hq8 (by assumption) ?r8
    case hi8 => (simp only [List.getElem?_toArray, List.getElem?_cons_succ, List.getElem?_cons_zero]; rfl)
    case hd8 => rfl
    case hw8 => rfl
    case hy8 => ((intro w hSw; (try dsimp only at hSw); obtain ⟨k0, k1, k2, k3, k4⟩ := (H2.out.2.2.1.below hSw).cells; clear hSw; go_simp) <;> (with_reducible rfl))
    case hq8 => exact fun _ _ _ h => h
    simp only [List.set_cons_succ, List.set_cons_zero]
    refine take_at (i := 8) (d := 15) (oi := ?o9) (v := ?v9) ?hi9 ?hd9 (by kernel_rfl) (by kernel_rfl) (by kernel_rfl) ?hw9 ?hy9 ?hq9 (by assumption) ?r9
    case hi9 => (simp only [List.getElem?_toArray, List.getElem?_cons_succ, List.getElem?_cons_zero]; rfl)
    case hd9 => rfl
    case hw9 => rfl
    case hy9 => ((intro w hSw; (try dsimp only at hSw); obtain ⟨k0, k1, k2, k3, k4⟩ := (H2.out.2.2.1.below hSw).cells; clear hSw; go_simp) <;> (with_reducible rfl))
    case hq9 => exact fun _ _ _ h => h
    simp only [List.set_cons_succ, List.set_cons_zero]
    refine call_at (i := 9) (d := 16) (oi := ?o10) (f := ?f10) (args := ?a10) ?hi10 ?hd10 (by kernel_rfl) ?hw10 ?he10 ?hc10
    case hi10 => (simp only [List.getElem?_toArray, List.getElem?_cons_succ, List.getElem?_cons_zero]; rfl)
    case hd10 => rfl
    case hw10 => rfl
    case he10 => (go_simp; constructor <;> with_reducible rfl)
    refine Calls.mono (final_any s _) ?_
    rintro r w3 ⟨rfl, hb3⟩
    have kb : Below w2.heap.size w2 w3 := hHeld.trans (hb3.mono hHeld.size)
    refine ⟨_, rfl, kb, fun hHeld => ?_⟩
    simp only [List.set_cons_succ, List.set_cons_zero]
    obtain ⟨wv, hwv⟩ : ∃ x, x = w3.alloc (.cells #[.int .i64 s.ix, .int .i64 s.tm, .int .i64 s.sm, .int .i64 s.lv, .int .i64 (bitI s.fn)] 3) := ⟨_, rfl⟩
    have hSv : Below w2.heap.size w2 wv := by rw [hwv]; exact kb.alloc kb.size _
    have hrv : Rd wv wv.heap.size .i64 (some ⟨w3.heap.size, 0, none⟩) 5 [s.ix, s.tm, s.sm, s.lv, bitI s.fn] := by rw [hwv]; exact Rd.made _ .i64 3 [s.ix, s.tm, s.sm, s.lv, bitI s.fn] rfl
    refine wpAnyH_ready (rs := [10]) (by kernel_rfl) (by simp) ?_
    refine br_val (i := 10) (d := 17) (oi := ?o11) (v := (.slice (some ⟨w3.heap.size, 0, none⟩) 5 5)) (w' := wv) ?hi11 ?hd11 ?hw11 ?he11 hSv ?hc11
    case hi11 => (simp only [List.getElem?_toArray, List.getElem?_cons_succ, List.getElem?_cons_zero]; rfl)
    case hd11 => rfl
    case hw11 => rfl
    case he11 => (rw [hwv]; clear hwv; go_simp; try rfl)
    intro hHeld
    simp only [List.set_cons_succ, List.set_cons_zero]
    refine call_at (i := 11) (d := 18) (oi := ?o12) (f := ?f12) (args := ?a12) ?hi12 ?hd12 (by kernel_rfl) ?hw12 ?he12 ?hc12
    case hi12 => (simp only [List.getElem?_toArray, List.getElem?_cons_succ, List.getElem?_cons_zero]; rfl)
    case hd12 => rfl
    case hw12 => rfl
    case he12 => (go_simp; constructor <;> with_reducible rfl)
    have hsc := Nu.short_yes (some ⟨w3.heap.size, 0, none⟩) 5 5 [s.ix, s.tm, s.sm, s.lv, bitI s.fn] wv hrv (by decide) H2.out.2.2.2.1 H2.out.2.2.2.2.1 H2.out.2.2.2.2.2
    refine hsc.mono ?_
    rintro r w4 ⟨A4, c4, rfl, hrow, hb4⟩
    have kc : Below w2.heap.size w2 w4 := hSv.trans (hb4.mono hSv.size)
    refine ⟨_, rfl, kc, fun hHeld => ?_⟩
    simp only [List.set_cons_succ, List.set_cons_zero]
    refine take_at (i := 12) (d := 19) (oi := ?o13) (v := ?v13) ?hi13 ?hd13 (by kernel_rfl) (by kernel_rfl) (by kernel_rfl) ?hw13 ?hy13 ?hq13 (by assumption) ?r13
    case hi13 => (simp only [List.getElem?_toArray, List.getElem?_cons_succ, List.getElem?_cons_zero]; rfl)
    case hd13 => rfl
    case hw13 => rfl
    case hy13 => ((intro w hSw; (try dsimp only at hSw); go_simp) <;> (with_reducible rfl))
    case hq13 => exact fun _ _ _ h => h
    simp only [List.set_cons_succ, List.set_cons_zero]
    refine take_at (i := 13) (d := 20) (oi := ?o14) (v := ?v14) ?hi14 ?hd14 (by kernel_rfl) (by kernel_rfl) (by kernel_rfl) ?hw14 ?hy14 ?hq14 (by assumption) ?r14
    case hi14 => (simp only [List.getElem?_toArray, List.getElem?_cons_succ, List.getElem?_cons_zero]; rfl)
    case hd14 => rfl
    case hw14 => rfl
    case hy14 => ((intro w hSw; (try dsimp only at hSw); go_simp) <;> (with_reducible rfl))
    case hq14 => exact fun _ _ _ h => h
    simp only [List.set_cons_succ, List.set_cons_zero]
    refine take_at (i := 14) (d := 2) (oi := ?o15) (v := ?v15) ?hi15 ?hd15 (by kernel_rfl) (by kernel_rfl) (by kernel_rfl) ?hw15 ?hy15 ?hq15 (by assumption) ?r15
    case hi15 => (simp only [List.getElem?_toArray, List.getElem?_cons_succ, List.getElem?_cons_zero]; rfl)
    case hd15 => rfl
    case hw15 => rfl
    case hy15 => ((intro w hSw; (try dsimp only at hSw); go_simp) <;> (with_reducible rfl))
    case hq15 => exact fun _ _ _ h => h
    simp only [List.set_cons_succ, List.set_cons_zero]
    refine take_at (i := 15) (d := 3) (oi := ?o16) (v := ?v16) ?hi16 ?hd16 (by kernel_rfl) (by kernel_rfl) (by kernel_rfl) ?hw16 ?hy16 ?hq16 (by assumption) ?r16
    case hi16 => (simp only [List.getElem?_toArray, List.getElem?_cons_succ, List.getElem?_cons_zero]; rfl)
    case hd16 => rfl
    case hw16 => rfl
    case hy16 => ((intro w hSw; (try dsimp only at hSw); go_simp) <;> (with_reducible rfl))
    case hq16 => exact fun _ _ _ h => h
    simp only [List.set_cons_succ, List.set_cons_zero]
    refine wpAnyH_done (by kernel_rfl) ?_ _
    have HB := Lib.hid (⟨hrow, kc⟩ : _ ∧ _)
    clear hrow kc hHeld hrv hSv hb4 hsc
    go_wp2_with fail
    go_ret2
    obtain ⟨h1, h2, h3, h4, h5, h6⟩ := H2.out
    obtain ⟨hrow, kc⟩ := HB.out
    exact Told.some_ (h1.trans (by rw [← h5]; rfl)) hrow.1 hrow.2 (h2.trans (kc.mono h2.size))

theorem bit_wrap (b : Bool) : IntKind.i64.wrap (bitI b) = bitI b := by rw [IntKind.wrap_i64] <;> (unfold bitI; split <;> omega)
set_option maxRecDepth 100000 in
set_option maxHeartbeats 1000000 in
theorem rText_any (s : StP) (w : World) : Calls Tryd.prog 17 #[s.v] w (Told w (textP s)) := by
  obtain ⟨wx, hwx⟩ : ∃ wx, wx = w.alloc (.cells #[.int .i64 s.ix, .int .i64 s.tm, .int .i64 s.sm, .int .i64 s.lv, .bool s.fn] 23) := ⟨_, rfl⟩
  obtain ⟨z, hz⟩ : ∃ z, z = w.heap.size := ⟨_, rfl⟩
  have bx : BoxS wx z s := by rw [hwx, hz]; exact BoxS.new w s
  have hBx : Below w.heap.size w wx := by rw [hwx]; exact (Below.refl _ w).alloc (Nat.le_refl _) _
  have kx := bx.cells
  obtain ⟨k0, k1, k2, k3, k4⟩ := kx
  have hfc := rfine_any s wx
  have Hf := Lib.hid hfc
  clear hfc
  unfold StP.v at Hf ⊢
  have H := Lib.hid (⟨hwx, hz, bx, hBx⟩ : _ ∧ _ ∧ _ ∧ _)
  rw [hwx, hz] at k0 k1 k2 k3 k4
  clear hwx hz bx hBx
  go_enter Tryd.func17, Tryd.ntmps17
  go_wp2_with fail
  rw [← H.out.1, ← H.out.2.1]
  refine Hf.out.mono ?_
  rintro e w2 ⟨rfl, hb2⟩
  obtain ⟨hwx, hz, bx, hBx⟩ := H.out
  have b2 := bx.below hb2
  have hB2 := hBx.trans (hb2.mono hBx.size)
  obtain ⟨k0, k1, k2, k3, k4⟩ := b2.cells
  cases hF : fineB s with
  | false =>
    have H2 := Lib.hid (⟨textP_no hF, hB2⟩ : _ ∧ _)
    clear b2 hB2 hb2 bx hBx k0 k1 k2 k3 k4 hwx hz
    go_wp2_with fail
    go_ret2
    exact Told.none_ H2.out.1 H2.out.2
  | true =>
    obtain ⟨R, hR⟩ : ∃ R, Nu.shortsOf [s.ix, s.tm, s.sm, s.lv, bitI s.fn] = R := ⟨_, rfl⟩
    obtain ⟨q, hq⟩ : ∃ q, R.length = q := ⟨_, rfl⟩
    have H2 := Lib.hid (⟨textP_yes hF, hB2, b2, (show Nu.allNum [s.ix, s.tm, s.sm, s.lv, bitI s.fn] = true from fine_nums hF), hR, hq⟩ : _ ∧ _ ∧ _ ∧ _ ∧ _ ∧ _)
    clear hB2 hb2 bx hBx hwx hz k0 k1 k2 k3 k4 b2 hF hR hq
    go_wp2_with fail
    refine wp_region_held_drew (S := (fun W => Below w2.heap.size w2 W)) (by kernel_rfl) (below_dr (below_d0 _)) (fun hHeld => ?_)
    refine take_at (i := 0) (d := 7) (oi := ?o17) (v := ?v17) ?hi17 ?hd17 (by kernel_rfl) (by kernel_rfl) (by kernel_rfl) ?hw17 ?hy17 ?hq17 (by assumption) ?r17
    case hi17 => (simp only [List.getElem?_toArray, List.getElem?_cons_zero]; rfl)
    case hd17 => rfl
    case hw17 => rfl
    case hy17 => ((intro w hSw; (try dsimp only at hSw); go_simp) <;> (with_reducible rfl))
    case hq17 => exact fun _ _ _ h => h
    simp only [List.set_cons_succ, List.set_cons_zero]
    refine take_at (i := 1) (d := 8) (oi := ?o18) (v := ?v18) ?hi18 ?hd18 (by kernel_rfl) (by kernel_rfl) (by kernel_rfl) ?hw18 ?hy18 ?hq18 (by assumption) ?r18
    case hi18 => (simp only [List.getElem?_toArray, List.getElem?_cons_succ, List.getElem?_cons_zero]; rfl)
    case hd18 => rfl
    case hw18 => rfl
    case hy18 => ((intro w hSw; (try dsimp only at hSw); obtain ⟨k0, k1, k2, k3, k4⟩ := (H2.out.2.2.1.below hSw).cells; clear hSw; go_simp) <;> (with_reducible rfl))
    case hq18 => exact fun _ _ _ h => h
    simp only [List.set_cons_succ, List.set_cons_zero]
    refine take_at (i := 2) (d := 9) (oi := ?o19) (v := ?v19) ?hi19 ?hd19 (by kernel_rfl) (by kernel_rfl) (by kernel_rfl) ?hw19 ?hy19 ?hq19 (by assumption) ?r19
    case hi19 => (simp only [List.getElem?_toArray, List.getElem?_cons_succ, List.getElem?_cons_zero]; rfl)
    case hd19 => rfl
    case hw19 => rfl
    case hy19 => ((intro w hSw; (try dsimp only at hSw); go_simp) <;> (with_reducible rfl))
    case hq19 => exact fun _ _ _ h => h
    simp only [List.set_cons_succ, List.set_cons_zero]
    refine take_at (i := 3) (d := 10) (oi := ?o20) (v := ?v20) ?hi20 ?hd20 (by kernel_rfl) (by kernel_rfl) (by kernel_rfl) ?hw20 ?hy20 ?hq20 (by assumption) ?r20
    case hi20 => (simp only [List.getElem?_toArray, List.getElem?_cons_succ, List.getElem?_cons_zero]; rfl)
    case hd20 => rfl
    case hw20 => rfl
    case hy20 => ((intro w hSw; (try dsimp only at hSw); obtain ⟨k0, k1, k2, k3, k4⟩ := (H2.out.2.2.1.below hSw).cells; clear hSw; go_simp) <;> (with_reducible rfl))
    case hq20 => exact fun _ _ _ h => h
    simp only [List.set_cons_succ, List.set_cons_zero]
    refine take_at (i := 4) (d := 11) (oi := ?o21) (v := ?v21) ?hi21 ?hd21 (by kernel_rfl) (by kernel_rfl) (by kernel_rfl) ?hw21 ?hy21 ?hq21 (by assumption) ?r21
    case hi21 => (simp only [List.getElem?_toArray, List.getElem?_cons_succ, List.getElem?_cons_zero]; rfl)
    case hd21 => rfl
    case hw21 => rfl
    case hy21 => ((intro w hSw; (try dsimp only at hSw); go_simp) <;> (with_reducible rfl))
    case hq21 => exact fun _ _ _ h => h
    simp only [List.set_cons_succ, List.set_cons_zero]
    refine take_at (i := 5) (d := 12) (oi := ?o22) (v := ?v22) ?hi22 ?hd22 (by kernel_rfl) (by kernel_rfl) (by kernel_rfl) ?hw22 ?hy22 ?hq22 (by assumption) ?r22
    case hi22 => (simp only [List.getElem?_toArray, List.getElem?_cons_succ, List.getElem?_cons_zero]; rfl)
    case hd22 => rfl
    case hw22 => rfl
    case hy22 => ((intro w hSw; (try dsimp only at hSw); obtain ⟨k0, k1, k2, k3, k4⟩ := (H2.out.2.2.1.below hSw).cells; clear hSw; go_simp) <;> (with_reducible rfl))
    case hq22 => exact fun _ _ _ h => h
    simp only [List.set_cons_succ, List.set_cons_zero]
    refine take_at (i := 6) (d := 13) (oi := ?o23) (v := ?v23) ?hi23 ?hd23 (by kernel_rfl) (by kernel_rfl) (by kernel_rfl) ?hw23 ?hy23 ?hq23 (by assumption) ?r23
    case hi23 => (simp only [List.getElem?_toArray, List.getElem?_cons_succ, List.getElem?_cons_zero]; rfl)
    case hd23 => rfl
    case hw23 => rfl
    case hy23 => ((intro w hSw; (try dsimp only at hSw); go_simp) <;> (with_reducible rfl))
    case hq23 => exact fun _ _ _ h => h
    simp only [List.set_cons_succ, List.set_cons_zero]
    refine take_at (i := 7) (d := 14) (oi := ?o24) (v := ?v24) ?hi24 ?hd24 (by kernel_rfl) (by kernel_rfl) (by kernel_rfl) ?hw24 ?hy24 ?hq24 (by assumption) ?r24
    case hi24 => (simp only [List.getElem?_toArray, List.getElem?_cons_succ, List.getElem?_cons_zero]; rfl)
    case hd24 => rfl
    case hw24 => rfl
    case hy24 => ((intro w hSw; (try dsimp only at hSw); obtain ⟨k0, k1, k2, k3, k4⟩ := (H2.out.2.2.1.below hSw).cells; clear hSw; go_simp) <;> (with_reducible rfl))
    case hq24 => exact fun _ _ _ h => h
    simp only [List.set_cons_succ, List.set_cons_zero]
    refine take_at (i := 8) (d := 15) (oi := ?o25) (v := ?v25) ?hi25 ?hd25 (by kernel_rfl) (by kernel_rfl) (by kernel_rfl) ?hw25 ?hy25 ?hq25 (by assumption) ?r25
    case hi25 => (simp only [List.getElem?_toArray, List.getElem?_cons_succ, List.getElem?_cons_zero]; rfl)
    case hd25 => rfl
    case hw25 => rfl
    case hy25 => ((intro w hSw; (try dsimp only at hSw); go_simp) <;> (with_reducible rfl))
    case hq25 => exact fun _ _ _ h => h
    simp only [List.set_cons_succ, List.set_cons_zero]
    refine take_at (i := 9) (d := 16) (oi := ?o26) (v := ?v26) ?hi26 ?hd26 (by kernel_rfl) (by kernel_rfl) (by kernel_rfl) ?hw26 ?hy26 ?hq26 (by assumption) ?r26
    case hi26 => (simp only [List.getElem?_toArray, List.getElem?_cons_succ, List.getElem?_cons_zero]; rfl)
    case hd26 => rfl
    case hw26 => rfl
    case hy26 => ((intro w hSw; (try dsimp only at hSw); obtain ⟨k0, k1, k2, k3, k4⟩ := (H2.out.2.2.1.below hSw).cells; clear hSw; go_simp) <;> (with_reducible rfl))
    case hq26 => exact fun _ _ _ h => h
    simp only [List.set_cons_succ, List.set_cons_zero]
    refine call_at (i := 10) (d := 17) (oi := ?o27) (f := ?f27) (args := ?a27) ?hi27 ?hd27 (by kernel_rfl) ?hw27 ?he27 ?hc27
    case hi27 => (simp only [List.getElem?_toArray, List.getElem?_cons_succ, List.getElem?_cons_zero]; rfl)
    case hd27 => rfl
    case hw27 => rfl
    case he27 => (go_simp; constructor <;> with_reducible rfl)
    refine Calls.mono (bit_any s.fn _) ?_
    rintro r w3 ⟨rfl, rfl⟩
    refine ⟨_, rfl, hHeld, fun hHeld => ?_⟩
    simp only [List.set_cons_succ, List.set_cons_zero]
    refine take_at (i := 11) (d := 18) (oi := ?o28) (v := ?v28) ?hi28 ?hd28 (by kernel_rfl) (by kernel_rfl) (by kernel_rfl) ?hw28 ?hy28 ?hq28 (by assumption) ?r28
    case hi28 => (simp only [List.getElem?_toArray, List.getElem?_cons_succ, List.getElem?_cons_zero]; rfl)
    case hd28 => rfl
    case hw28 => rfl
    case hy28 => ((intro w hSw; (try dsimp only at hSw); have hwr : IntKind.i64.wrap (bitI s.fn) = bitI s.fn := bit_wrap _; clear hSw; go_simp) <;> (with_reducible rfl))
    case hq28 => exact fun _ _ _ h => h
    simp only [List.set_cons_succ, List.set_cons_zero]
    obtain ⟨wv, hwv⟩ : ∃ x, x = w2.drew.alloc (.cells #[.int .i64 s.ix, .int .i64 s.tm, .int .i64 s.sm, .int .i64 s.lv, .int .i64 (bitI s.fn)] 3) := ⟨_, rfl⟩
    have hSv : Below w2.heap.size w2 wv := by rw [hwv]; exact hHeld.alloc hHeld.size _
    have hrv : Rd wv wv.heap.size .i64 (some ⟨w2.heap.size, 0, none⟩) 5 [s.ix, s.tm, s.sm, s.lv, bitI s.fn] := by rw [hwv]; exact Rd.made _ .i64 3 [s.ix, s.tm, s.sm, s.lv, bitI s.fn] rfl
    refine wpAnyH_ready (rs := [12]) (by kernel_rfl) (by simp) ?_
    refine br_val (i := 12) (d := 19) (oi := ?o29) (v := (.slice (some ⟨w2.heap.size, 0, none⟩) 5 5)) (w' := wv) ?hi29 ?hd29 ?hw29 ?he29 hSv ?hc29
    case hi29 => (simp only [List.getElem?_toArray, List.getElem?_cons_succ, List.getElem?_cons_zero]; rfl)
    case hd29 => rfl
    case hw29 => rfl
    case he29 => (rw [hwv]; clear hwv; go_simp; try rfl)
    intro hHeld
    simp only [List.set_cons_succ, List.set_cons_zero]
    refine call_at (i := 13) (d := 20) (oi := ?o30) (f := ?f30) (args := ?a30) ?hi30 ?hd30 (by kernel_rfl) ?hw30 ?he30 ?hc30
    case hi30 => (simp only [List.getElem?_toArray, List.getElem?_cons_succ, List.getElem?_cons_zero]; rfl)
    case hd30 => rfl
    case hw30 => rfl
    case he30 => (go_simp; constructor <;> with_reducible rfl)
    have hsc := rshort_yes (some ⟨w2.heap.size, 0, none⟩) 5 5 [s.ix, s.tm, s.sm, s.lv, bitI s.fn] wv hrv (by decide) H2.out.2.2.2.1 H2.out.2.2.2.2.1 H2.out.2.2.2.2.2
    refine hsc.mono ?_
    rintro r w4 ⟨A4, c4, rfl, hrow, hb4⟩
    have kc : Below w2.heap.size w2 w4 := hSv.trans (hb4.mono hSv.size)
    refine ⟨_, rfl, kc, fun hHeld => ?_⟩
    simp only [List.set_cons_succ, List.set_cons_zero]
    refine take_at (i := 14) (d := 21) (oi := ?o31) (v := ?v31) ?hi31 ?hd31 (by kernel_rfl) (by kernel_rfl) (by kernel_rfl) ?hw31 ?hy31 ?hq31 (by assumption) ?r31
    case hi31 => (simp only [List.getElem?_toArray, List.getElem?_cons_succ, List.getElem?_cons_zero]; rfl)
    case hd31 => rfl
    case hw31 => rfl
    case hy31 => ((intro w hSw; (try dsimp only at hSw); go_simp) <;> (with_reducible rfl))
    case hq31 => exact fun _ _ _ h => h
    simp only [List.set_cons_succ, List.set_cons_zero]
    refine take_at (i := 15) (d := 22) (oi := ?o32) (v := ?v32) ?hi32 ?hd32 (by kernel_rfl) (by kernel_rfl) (by kernel_rfl) ?hw32 ?hy32 ?hq32 (by assumption) ?r32
    case hi32 => (simp only [List.getElem?_toArray, List.getElem?_cons_succ, List.getElem?_cons_zero]; rfl)
    case hd32 => rfl
    case hw32 => rfl
    case hy32 => ((intro w hSw; (try dsimp only at hSw); go_simp) <;> (with_reducible rfl))
    case hq32 => exact fun _ _ _ h => h
    simp only [List.set_cons_succ, List.set_cons_zero]
    refine take_at (i := 16) (d := 2) (oi := ?o33) (v := ?v33) ?hi33 ?hd33 (by kernel_rfl) (by kernel_rfl) (by kernel_rfl) ?hw33 ?hy33 ?hq33 (by assumption) ?r33
    case hi33 => (simp only [List.getElem?_toArray, List.getElem?_cons_succ, List.getElem?_cons_zero]; rfl)
    case hd33 => rfl
    case hw33 => rfl
    case hy33 => ((intro w hSw; (try dsimp only at hSw); go_simp) <;> (with_reducible rfl))
    case hq33 => exact fun _ _ _ h => h
    simp only [List.set_cons_succ, List.set_cons_zero]
    refine take_at (i := 17) (d := 3) (oi := ?o34) (v := ?v34) ?hi34 ?hd34 (by kernel_rfl) (by kernel_rfl) (by kernel_rfl) ?hw34 ?hy34 ?hq34 (by assumption) ?r34
    case hi34 => (simp only [List.getElem?_toArray, List.getElem?_cons_succ, List.getElem?_cons_zero]; rfl)
    case hd34 => rfl
    case hw34 => rfl
    case hy34 => ((intro w hSw; (try dsimp only at hSw); go_simp) <;> (with_reducible rfl))
    case hq34 => exact fun _ _ _ h => h
    simp only [List.set_cons_succ, List.set_cons_zero]
    refine wpAnyH_done (by kernel_rfl) ?_ _
    have HB := Lib.hid (⟨hrow, kc⟩ : _ ∧ _)
    clear hrow kc hHeld hrv hSv hb4 hsc
    go_wp2_with fail
    go_ret2
    obtain ⟨h1, h2, h3, h4, h5, h6⟩ := H2.out
    obtain ⟨hrow, kc⟩ := HB.out
    exact Told.some_ (h1.trans (by rw [← h5]; rfl)) hrow.1 hrow.2 (h2.trans (kc.mono h2.size))

end Go.Proofs.YtdggacabjlengaaDoor
