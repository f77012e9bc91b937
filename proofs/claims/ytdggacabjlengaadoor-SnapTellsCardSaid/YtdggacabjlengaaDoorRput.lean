/-
  The document's Put: its contract.
-/
import Derived.Test.YtdggacabjlengaaDoorRpcs
import Derived.Test.YtdggacabjlengaaDoorPutA
namespace Go.Proofs.YtdggacabjlengaaDoor
open Go.RowKit
set_option linter.unusedVariables false
set_option linter.unusedSimpArgs false

set_option maxRecDepth 100000 in
set_option maxHeartbeats 2000000 in
theorem rPut_any (s : StP) (f : Int) (w : World) : Calls Tryd.prog 10 #[s.v, .int .i64 f] w (Told w (putP s f)) := by
  obtain ⟨i0, hi, hz0, hz1, hz2⟩ := info_parts Nu.info_byte
  obtain ⟨wx, hwx⟩ : ∃ wx, wx = w.alloc (.cells #[.int .i64 s.ix, .int .i64 s.tm, .int .i64 s.sm, .int .i64 s.lv, .bool s.fn] 23) := ⟨_, rfl⟩
  obtain ⟨z, hz⟩ : ∃ z, z = w.heap.size := ⟨_, rfl⟩
  have bx : BoxS wx z s := by rw [hwx, hz]; exact BoxS.new w s
  have hBx : Below w.heap.size w wx := by rw [hwx]; exact (Below.refl _ w).alloc (Nat.le_refl _) _
  obtain ⟨k0, k1, k2, k3, k4⟩ := bx.cells
  have Hf := Lib.hid (rText_any s wx)
  unfold StP.v at Hf ⊢
  have H := Lib.hid (⟨hwx, hz, bx, hBx⟩ : _ ∧ _ ∧ _ ∧ _)
  rw [hwx, hz] at k0 k1 k2 k3 k4
  clear hwx hz bx hBx
  cases hF : fineB s with
  | false =>
    have H3 := Lib.hid (⟨textP_no hF, (putP_no (fun h => by rw [hF] at h; cases h.1) : putP s f = ([], 2))⟩ : _ ∧ _)
    clear hF
    go_enter Tryd.func10, Tryd.ntmps10
    go_wp2_with fail
    rw [← H.out.1, ← H.out.2.1]
    refine Calls.mono Hf.out ?_
    rintro e w2 ⟨⟨A2, c2, rfl, -, -⟩, hb2⟩
    rw [H3.out.1]
    have HB2 := Lib.hid (H.out.2.2.2.trans (hb2.mono H.out.2.2.2.size))
    clear hb2 k0 k1 k2 k3 k4
    go_wp2_with fail
    go_ret2
    exact Told.none_ H3.out.2 HB2.out
  | true =>
  obtain ⟨q, hq⟩ : ∃ q, (textL s).length = q := ⟨_, rfl⟩
  have hq25 := (text_len hF).2
  rw [hq] at hq25
  obtain ⟨m, hm⟩ : ∃ m, m = (q + 3) / 4 := ⟨_, rfl⟩
  by_cases f1 : f = 1
  · subst f1
    have HF := Lib.hid (⟨textP_yes hF, putP_yes hF (.inl rfl), hF, fine_three hF, one_byt hF⟩ : _ ∧ _ ∧ _ ∧ _ ∧ _)
    have hlv := fine_level hF
    have hu8 : IntKind.u8.wrap s.lv = s.lv := by rw [IntKind.wrap_u8]; omega
    have HW := Lib.hid hu8
    clear hF hlv hu8 hm
    go_enter Tryd.func10, Tryd.ntmps10
    go_wp2_with fail
    rw [← H.out.1, ← H.out.2.1]
    refine Calls.mono Hf.out ?_
    rintro e w2 ⟨⟨A2, c2, rfl, -, -⟩, hb2⟩
    rw [HF.out.1]
    dsimp only
    rw [hq]
    have b2 := H.out.2.2.1.below hb2
    have hB2 := H.out.2.2.2.trans (hb2.mono H.out.2.2.2.size)
    obtain ⟨k0, k1, k2, k3, k4⟩ := b2.cells
    have hr3 : Rd (w2.alloc (.cells #[.int .i64 s.ix, .int .i64 s.tm, .int .i64 s.sm] 3)) (w2.alloc (.cells #[.int .i64 s.ix, .int .i64 s.tm, .int .i64 s.sm] 3)).heap.size .i64 (some ⟨w2.heap.size, 0, none⟩) 3 [s.ix, s.tm, s.sm] := Rd.made w2 .i64 3 [s.ix, s.tm, s.sm] rfl
    have H2 := Lib.hid (⟨b2, hB2, hr3, hB2.alloc hB2.size (.cells #[.int .i64 s.ix, .int .i64 s.tm, .int .i64 s.sm] 3)⟩ : _ ∧ _ ∧ _ ∧ _)
    clear b2 hB2 hr3 hb2
    go_wp2_with fail
    refine (rlong_three _ 3 _ _ _ _ H2.out.2.2.1 HF.out.2.2.2.1).mono ?_
    rintro e w3 ⟨A3, c3, rfl, hc3, hr3, hb3⟩
    have hB3 := H2.out.2.2.2.trans (hb3.mono H2.out.2.2.2.size)
    have b3 : BoxS w3 z s := (hb3.block z (by have := H2.out.1.lt; simp; omega)).trans ((Below.heap_alloc w2 _ z H2.out.1.lt).trans H2.out.1)
    have H3 := Lib.hid (⟨hr3, hB3, b3, hB3.size⟩ : _ ∧ _ ∧ _ ∧ _)
    clear hr3 hB3 b3 hb3 hc3 k0 k1 k2 k3 k4
    go_wp2_with fail
    refine wp_region_held_drew (S := (fun W => Below w3.heap.size w3 W)) (by kernel_rfl) (below_dr (below_d0 _)) (fun hHeld => ?_)
    refine take_at (i := 1) (d := 48) (oi := ?o35) (v := ?v35) ?hi35 ?hd35 (by kernel_rfl) (by kernel_rfl) (by kernel_rfl) ?hw35 ?hy35 ?hq35 (by assumption) ?r35
    case hi35 => (simp only [List.getElem?_toArray, List.getElem?_cons_succ, List.getElem?_cons_zero]; rfl)
    case hd35 => rfl
    case hw35 => rfl
    case hy35 => ((intro w hSw; (try dsimp only at hSw); go_simp) <;> (with_reducible rfl))
    case hq35 => exact fun _ _ _ h => h
    simp only [List.set_cons_succ, List.set_cons_zero]
    refine take_at (i := 3) (d := 50) (oi := ?o36) (v := ?v36) ?hi36 ?hd36 (by kernel_rfl) (by kernel_rfl) (by kernel_rfl) ?hw36 ?hy36 ?hq36 (by assumption) ?r36
    case hi36 => (simp only [List.getElem?_toArray, List.getElem?_cons_succ, List.getElem?_cons_zero]; rfl)
    case hd36 => rfl
    case hw36 => rfl
    case hy36 => ((intro w hSw; (try dsimp only at hSw); go_simp) <;> (with_reducible rfl))
    case hq36 => exact fun _ _ _ h => h
    simp only [List.set_cons_succ, List.set_cons_zero]
    refine take_at (i := 4) (d := 51) (oi := ?o37) (v := ?v37) ?hi37 ?hd37 (by kernel_rfl) (by kernel_rfl) (by kernel_rfl) ?hw37 ?hy37 ?hq37 (by assumption) ?r37
    case hi37 => (simp only [List.getElem?_toArray, List.getElem?_cons_succ, List.getElem?_cons_zero]; rfl)
    case hd37 => rfl
    case hw37 => rfl
    case hy37 => ((intro w hSw; (try dsimp only at hSw); obtain ⟨k0, k1, k2, k3, k4⟩ := (BoxS.cells (s := s) ((Below.block hSw z H3.out.2.2.1.lt).trans H3.out.2.2.1)); clear hSw; go_simp) <;> (with_reducible rfl))
    case hq37 => exact fun _ _ _ h => h
    simp only [List.set_cons_succ, List.set_cons_zero]
    refine take_at (i := 5) (d := 52) (oi := ?o38) (v := ?v38) ?hi38 ?hd38 (by kernel_rfl) (by kernel_rfl) (by kernel_rfl) ?hw38 ?hy38 ?hq38 (by assumption) ?r38
    case hi38 => (simp only [List.getElem?_toArray, List.getElem?_cons_succ, List.getElem?_cons_zero]; rfl)
    case hd38 => rfl
    case hw38 => rfl
    case hy38 => ((intro w hSw; (try dsimp only at hSw); have q1 := HW.out; clear hSw; go_simp) <;> (with_reducible rfl))
    case hq38 => exact fun _ _ _ h => h
    simp only [List.set_cons_succ, List.set_cons_zero]
    refine take_at (i := 6) (d := 53) (oi := ?o39) (v := ?v39) ?hi39 ?hd39 (by kernel_rfl) (by kernel_rfl) (by kernel_rfl) ?hw39 ?hy39 ?hq39 (by assumption) ?r39
    case hi39 => (simp only [List.getElem?_toArray, List.getElem?_cons_succ, List.getElem?_cons_zero]; rfl)
    case hd39 => rfl
    case hw39 => rfl
    case hy39 => ((intro w hSw; (try dsimp only at hSw); go_simp) <;> (with_reducible rfl))
    case hq39 => exact fun _ _ _ h => h
    simp only [List.set_cons_succ, List.set_cons_zero]
    refine take_at (i := 7) (d := 54) (oi := ?o40) (v := ?v40) ?hi40 ?hd40 (by kernel_rfl) (by kernel_rfl) (by kernel_rfl) ?hw40 ?hy40 ?hq40 (by assumption) ?r40
    case hi40 => (simp only [List.getElem?_toArray, List.getElem?_cons_succ, List.getElem?_cons_zero]; rfl)
    case hd40 => rfl
    case hw40 => rfl
    case hy40 => ((intro w hSw; (try dsimp only at hSw); obtain ⟨k0, k1, k2, k3, k4⟩ := (BoxS.cells (s := s) ((Below.block hSw z H3.out.2.2.1.lt).trans H3.out.2.2.1)); clear hSw; go_simp) <;> (with_reducible rfl))
    case hq40 => exact fun _ _ _ h => h
    simp only [List.set_cons_succ, List.set_cons_zero]
    obtain ⟨w4, hw4⟩ : ∃ x, x = w3.drew.alloc (.cells #[.int .u8 1] 5) := ⟨_, rfl⟩
    have hS4 : Below w3.heap.size w3 w4 := by rw [hw4]; exact below_al (below_dr (below_d0 w3)) _
    have own4 : w4.ownsRow w3.heap.size 5 1 (.slice (some ⟨w3.heap.size, 0, none⟩) 1 1) 1 [Value.int .u8 1] := by rw [hw4]; exact own_lit w3.drew (base := w3.heap.size) (g := w3.heap.size) (e := 5) [Value.int .u8 1] rfl (Nat.le_refl _) (by simp [maxLen])
    refine wpAnyH_ready (rs := [0]) (by kernel_rfl) (by simp) ?_
    refine br_val (i := 0) (d := 47) (oi := ?o41) (v := (.slice (some ⟨w3.heap.size, 0, none⟩) 1 1)) (w' := w4) ?hi41 ?hd41 ?hw41 ?he41 hS4 ?hc41
    case hi41 => (simp only [List.getElem?_toArray, List.getElem?_cons_zero]; rfl)
    case hd41 => rfl
    case hw41 => rfl
    case he41 => (rw [hw4]; clear hw4; go_simp; try rfl)
    intro hHeld
    simp only [List.set_cons_succ, List.set_cons_zero]
    obtain ⟨v5, w5, hrunA, LA⟩ := run_append (P := Tryd.prog) (c := c3) (ty := 24) Tryd.underlying24 hi hz0 hz1 hz2 rfl (by decide) own4 (Source.rd (H3.out.1.on hS4 hS4.size)) (by unfold maxLen; decide) (by decide) hS4.size
    obtain ⟨A5, c5, rfl, hc5, own5, hB5, n5⟩ := Longer.more (B := w3.heap.size) hS4 hS4.size (fun g hg => by simp [Value.ownBlock] at hg; omega) LA
    refine wpAnyH_ready (rs := [2]) (by kernel_rfl) (by simp) ?_
    refine br_val (i := 2) (d := 49) (oi := ?o42) (v := (.slice A5 (1 + 15) c5)) (w' := w5) ?hi42 ?hd42 ?hw42 ?he42 hB5 ?hc42
    case hi42 => (simp only [List.getElem?_toArray, List.getElem?_cons_succ, List.getElem?_cons_zero]; rfl)
    case hd42 => rfl
    case hw42 => rfl
    case he42 => (exact exec_append rfl rfl rfl hrunA)
    intro hHeld
    simp only [List.set_cons_succ, List.set_cons_zero]
    refine call_at (i := 8) (d := 55) (oi := ?o43) (f := ?f43) (args := ?a43) ?hi43 ?hd43 (by kernel_rfl) ?hw43 ?he43 ?hc43
    case hi43 => (simp only [List.getElem?_toArray, List.getElem?_cons_succ, List.getElem?_cons_zero]; rfl)
    case hd43 => rfl
    case hw43 => rfl
    case he43 => (go_simp; constructor <;> with_reducible rfl)
    refine Calls.mono (bit_any s.fn _) ?_
    rintro r w6 ⟨rfl, rfl⟩
    refine ⟨_, rfl, hB5, fun hHeld => ?_⟩
    simp only [List.set_cons_succ, List.set_cons_zero]
    obtain ⟨wv, hwv⟩ : ∃ x, x = w6.alloc (.cells #[.int .u8 s.lv, .int .u8 (bitI s.fn)] 5) := ⟨_, rfl⟩
    have hSv : Below w3.heap.size w3 wv := by rw [hwv]; exact hB5.alloc hB5.size _
    have srcv : Source wv 1 (some ⟨w6.heap.size, 0, none⟩) 2 ([s.lv, bitI s.fn].map (Value.int .u8)) := by rw [hwv]; exact Source.rd (Rd.made w6 .u8 5 [s.lv, bitI s.fn] rfl)
    have ownv := own_keep own5 (show Below w6.heap.size w6 wv by rw [hwv]; exact (Below.refl _ w6).alloc (Nat.le_refl _) _)
    refine wpAnyH_ready (rs := [9]) (by kernel_rfl) (by simp) ?_
    refine br_val (i := 9) (d := 56) (oi := ?o44) (v := (.slice (some ⟨w6.heap.size, 0, none⟩) 2 2)) (w' := wv) ?hi44 ?hd44 ?hw44 ?he44 hSv ?hc44
    case hi44 => (simp only [List.getElem?_toArray, List.getElem?_cons_succ, List.getElem?_cons_zero]; rfl)
    case hd44 => rfl
    case hw44 => rfl
    case he44 => (rw [hwv]; clear hwv; go_simp; try rfl)
    intro hHeld
    simp only [List.set_cons_succ, List.set_cons_zero]
    obtain ⟨v7, w7, hrunB, LB⟩ := run_append (P := Tryd.prog) (c := 2) (ty := 24) Tryd.underlying24 hi hz0 hz1 hz2 rfl (by decide) ownv srcv (by unfold maxLen; decide) (by decide) hSv.size
    obtain ⟨A7, c7, rfl, hc7, own7, hB7, n7⟩ := Longer.more (B := w3.heap.size) hSv hSv.size n5 LB
    have hrd7 : Rd w7 w7.heap.size .u8 A7 (1 + 15 + 2) (oneL s) := rd_own own7 (by simp [oneL])
    refine wpAnyH_ready (rs := [10]) (by kernel_rfl) (by simp) ?_
    refine br_val (i := 10) (d := 57) (oi := ?o45) (v := (.slice A7 (1 + 15 + 2) c7)) (w' := w7) ?hi45 ?hd45 ?hw45 ?he45 hB7 ?hc45
    case hi45 => (simp only [List.getElem?_toArray, List.getElem?_cons_succ, List.getElem?_cons_zero]; rfl)
    case hd45 => rfl
    case hw45 => rfl
    case he45 => (exact exec_append rfl rfl rfl hrunB)
    intro hHeld
    simp only [List.set_cons_succ, List.set_cons_zero]
    refine call_at (i := 11) (d := 58) (oi := ?o46) (f := ?f46) (args := ?a46) ?hi46 ?hd46 (by kernel_rfl) ?hw46 ?he46 ?hc46
    case hi46 => (simp only [List.getElem?_toArray, List.getElem?_cons_succ, List.getElem?_cons_zero]; rfl)
    case hd46 => rfl
    case hw46 => rfl
    case he46 => (go_simp; constructor <;> with_reducible rfl)
    refine (Cr.rput_any A7 (1 + 15 + 2) c7 (oneL s) w7 hrd7 HF.out.2.2.2.2 (by decide)).mono ?_
    rintro r w8 ⟨⟨x, A8, c8, hx8, rfl, hc8, hr8⟩, hb8⟩
    have kc : Below w3.heap.size w3 w8 := hB7.trans (hb8.mono hB7.size)
    refine ⟨_, rfl, kc, fun hHeld => ?_⟩
    simp only [List.set_cons_succ, List.set_cons_zero]
    refine take_at (i := 12) (d := 4) (oi := ?o47) (v := ?v47) ?hi47 ?hd47 (by kernel_rfl) (by kernel_rfl) (by kernel_rfl) ?hw47 ?hy47 ?hq47 (by assumption) ?r47
    case hi47 => (simp only [List.getElem?_toArray, List.getElem?_cons_succ, List.getElem?_cons_zero]; rfl)
    case hd47 => rfl
    case hw47 => rfl
    case hy47 => ((intro w hSw; (try dsimp only at hSw); go_simp) <;> (with_reducible rfl))
    case hq47 => exact fun _ _ _ h => h
    simp only [List.set_cons_succ, List.set_cons_zero]
    refine take_at (i := 13) (d := 5) (oi := ?o48) (v := ?v48) ?hi48 ?hd48 (by kernel_rfl) (by kernel_rfl) (by kernel_rfl) ?hw48 ?hy48 ?hq48 (by assumption) ?r48
    case hi48 => (simp only [List.getElem?_toArray, List.getElem?_cons_succ, List.getElem?_cons_zero]; rfl)
    case hd48 => rfl
    case hw48 => rfl
    case hy48 => ((intro w hSw; (try dsimp only at hSw); go_simp) <;> (with_reducible rfl))
    case hq48 => exact fun _ _ _ h => h
    simp only [List.set_cons_succ, List.set_cons_zero]
    refine wpAnyH_done (by kernel_rfl) ?_ _
    have hs8 : snap1 s = oneL s ++ Cr.fourI x := by rw [snap1, sealL, hx8.sum]
    have HB := Lib.hid (⟨hc8, hr8, kc, hs8⟩ : _ ∧ _ ∧ _ ∧ _)
    clear hx8 hc8 hr8 hb8 kc hs8 hHeld hrd7 own7 hB7 n7 LB hrunB hc7 ownv srcv hSv own5 hB5 n5 LA hrunA hc5 own4 hS4
    go_wp2_with fail
    go_ret2
    obtain ⟨hc8, hr8, kc, hs8⟩ := HB.out
    exact Told.some_ (HF.out.2.1.trans (by rw [snapL_one])) hc8 (by rw [hs8]; exact hr8) (H3.out.2.1.trans (kc.mono H3.out.2.1.size))
  by_cases f2 : f = 2
  · subst f2
    have HF := Lib.hid (⟨textP_yes hF, putP_yes hF (.inr rfl), hq, hm, text_byt hF⟩ : _ ∧ _ ∧ _ ∧ _ ∧ _)
    clear hF hm hq f1
    go_enter Tryd.func10, Tryd.ntmps10
    go_wp2_with fail
    rw [← H.out.1, ← H.out.2.1]
    refine Calls.mono Hf.out ?_
    rintro e w1 ⟨⟨A1, c1, rfl, hc1, hr1⟩, hb1⟩
    rw [HF.out.1] at hc1 hr1 ⊢
    dsimp only at hc1 hr1 ⊢
    rw [HF.out.2.2.1] at hc1 hr1 ⊢
    replace hb1 := H.out.2.2.2.trans (hb1.mono H.out.2.2.2.size)
    obtain ⟨w2, hw2'⟩ : ∃ x, x = w1.alloc (.cells #[.int .u8 2, .int .u8 (m : Int)] 5) := ⟨_, rfl⟩
    have own2 : w2.ownsRow w.heap.size 5 1 (.slice (some ⟨w1.heap.size, 0, none⟩) 2 2) 2 ([2, (m : Int)].map (Value.int .u8)) := by
      rw [hw2']
      exact own_lit w1 (base := w.heap.size) (g := w1.heap.size) (e := 5) [Value.int .u8 2, Value.int .u8 (m : Int)] rfl hb1.size (by simp [maxLen])
    have hB2 : Below w.heap.size w w2 := by rw [hw2']; exact hb1.alloc hb1.size _
    have hr2 := hr1.on (show Below w1.heap.size w1 w2 by rw [hw2']; exact (Below.refl _ w1).alloc (Nat.le_refl _) _) (show w1.heap.size ≤ w2.heap.size by rw [hw2']; simp)
    have H2 := Lib.hid (⟨own2, hB2, hr2, hw2', hb1.size, hc1⟩ : _ ∧ _ ∧ _ ∧ _ ∧ _ ∧ _)
    clear own2 hB2 hr2 hw2' hb1 hr1 hc1 k0 k1 k2 k3 k4
    go_wp2_with fail
    rw [show ((q : Int) + 3) / 4 = (m : Int) by rw [HF.out.2.2.2.1]; omega]
    rw [← H2.out.2.2.2.1]
    refine (rPieces_any A1 q c1 (textL s) w2 H2.out.2.2.1 HF.out.2.2.2.2 H2.out.2.2.2.2.2 (by omega)).mono ?_
    rintro e w3 ⟨A3, c3, n3, rfl, hn3, own3, hb3⟩
    have hn70 : n3 ≤ 70 := by
      rw [← hn3, piecesL, piece_len, HF.out.2.2.1]
      omega
    have own2' := own_keep H2.out.1 hb3
    have hr3 := Rd.of_own own3
    have H3 := Lib.hid (⟨own2', hr3, H2.out.2.1.trans (hb3.mono H2.out.2.1.size), hn3⟩ : _ ∧ _ ∧ _ ∧ _)
    clear own2' hr3 hb3 own3 hn3
    go_wp2_with (at_builtin; refine hold ?_)
    refine unhold (wpList_append (.tmp 32) (.tmp 34) 24 Tryd.underlying24 hi hz0 hz1 hz2 Nu.byte_cells (by decide) H3.out.1 (Source.rd H3.out.2.1) (by unfold maxLen; omega) (by omega) H3.out.2.2.1.size rfl rfl rfl rfl ?_)
    intro v4 w4 L4
    obtain ⟨A4, c4, rfl, hc4, own4, hB4, -⟩ := Longer.more (B := w.heap.size) H3.out.2.2.1 H3.out.2.2.1.size (fun g hg => by simp [Value.ownBlock] at hg; have := H2.out.2.2.2.2.1; omega) L4
    have hr4 : Rd w4 w4.heap.size .u8 A4 (2 + n3) (snap2 s) := rd_own own4 (by
      rw [snap2, manyL, HF.out.2.2.1, ← HF.out.2.2.2.1]
      rfl)
    have H4 := Lib.hid (⟨hc4, hr4, hB4⟩ : _ ∧ _ ∧ _)
    clear L4 own4 hB4 hr4 hc4
    go_wp2_with fail
    go_ret2
    exact Told.some_ (HF.out.2.1.trans (by rw [snapL_two])) H4.out.1 H4.out.2.1 H4.out.2.2
  · have H3 := Lib.hid (⟨textP_yes hF, (putP_no (fun h => h.2.elim f1 f2) : putP s f = ([], 2))⟩ : _ ∧ _)
    have e1 : (f != 1) = true := by simpa using f1
    have e2 : (f != 2) = true := by simpa using f2
    clear hF hq hm
    go_enter Tryd.func10, Tryd.ntmps10
    go_wp2_with fail
    rw [← H.out.1, ← H.out.2.1]
    refine Calls.mono Hf.out ?_
    rintro e w2 ⟨⟨A2, c2, rfl, -, -⟩, hb2⟩
    rw [H3.out.1]
    have HB2 := Lib.hid (H.out.2.2.2.trans (hb2.mono H.out.2.2.2.size))
    clear hb2 k0 k1 k2 k3 k4
    go_wp2_with fail
    go_ret2
    exact Told.none_ H3.out.2 HB2.out

end Go.Proofs.YtdggacabjlengaaDoor
