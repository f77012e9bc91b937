/-
  snap.puts, the snapshots of either format, Put: their contracts.
-/
import Derived.Test.YtdggacabjlengaaDoorPut9
import Derived.Test.YtdggacabjlengaaDoorPieces
namespace Go.Proofs.YtdggacabjlengaaDoor
open Go.RowKit
set_option linter.unusedVariables false
set_option linter.unusedSimpArgs false

section
variable (A : Option Addr) (n c : Nat) (a b d : Int) (w : World)
theorem long_three (hr : Rd w w.heap.size .i64 A 3 [a, b, d]) (ha : Nu.allNum [a, b, d] = true) :
    Calls Tryd.prog 42 #[.slice A 3 c] w fun e w' => ∃ A' c', e = .returned (.tuple #[.slice A' 15 c', .int .i64 0]) ∧ 15 ≤ c' ∧ Rd w' w'.heap.size .u8 A' 15 (Nu.longsOf [a, b, d]) ∧ Below w.heap.size w w' := by
  refine (callsIn_wide.1 (Nu.long_in A 3 c [a, b, d] w hr (by omega))).mono ?_
  rintro e w' ⟨⟨v, rfl, hg⟩, hb⟩
  rw [ha] at hg
  obtain ⟨A', c', rfl, h1, h2⟩ := hg
  have hl : (Nu.longsOf [a, b, d]).length = 15 := Nu.longsOf_length _
  simp only [if_true, hl] at h1 h2 ⊢
  exact ⟨A', c', by rw [ha]; rfl, h1, h2, hb⟩
theorem rlong_three (hr : Rd w w.heap.size .i64 A 3 [a, b, d]) (ha : Nu.allNum [a, b, d] = true) :
    Calls Tryd.prog 23 #[.slice A 3 c] w fun e w' => ∃ A' c', e = .returned (.tuple #[.slice A' 15 c', .int .i64 0]) ∧ 15 ≤ c' ∧ Rd w' w'.heap.size .u8 A' 15 (Nu.longsOf [a, b, d]) ∧ Below w.heap.size w w' := by
  refine (Nu.rlongs_any A 3 c [a, b, d] w hr (by omega)).mono ?_
  rintro e w' ⟨⟨v, rfl, hg⟩, hb⟩
  rw [ha] at hg
  have hl : (Nu.longsOf [a, b, d]).length = 15 := Nu.longsOf_length _
  simp only [if_true, hl] at hg ⊢
  obtain ⟨A', c', rfl, h1, h2⟩ := own_rd hg
  exact ⟨A', c', by rw [ha]; rfl, h1, h2, hb⟩
end
theorem rd_own {w : World} {base n c : Nat} {e : TypeId} {A : Option Addr} {l : List Int} {xs : List Value} (h : w.ownsRow base e 1 (.slice A n c) n xs) (hx : xs = l.map (Value.int .u8)) : Rd w w.heap.size .u8 A n l := by
  subst hx
  exact Rd.of_own h

set_option maxRecDepth 100000 in
set_option maxHeartbeats 1000000 in
theorem one_any (z : Nat) (s : StP) (w : World) (hT : Cr.Tab w) (hx : BoxS w z s) (hf : fineB s = true) : Calls Tryd.prog 41 #[.pointer (some ⟨z, 0, none⟩)] w (Told w (snap1 s, 0)) := by
  obtain ⟨i0, hi, hz0, hz1, hz2⟩ := info_parts Nu.info_byte
  have hr1 : Rd (w.alloc (.cells #[.int .i64 s.ix, .int .i64 s.tm, .int .i64 s.sm] 3)) (w.alloc (.cells #[.int .i64 s.ix, .int .i64 s.tm, .int .i64 s.sm] 3)).heap.size .i64 (some ⟨w.heap.size, 0, none⟩) 3 [s.ix, s.tm, s.sm] := Rd.made w .i64 3 [s.ix, s.tm, s.sm] rfl
  have hB0 : Below w.heap.size w (w.alloc (.cells #[.int .i64 s.ix, .int .i64 s.tm, .int .i64 s.sm] 3)) := (Below.refl _ w).alloc (Nat.le_refl _) _
  have hlv := fine_level hf
  have hu8 : IntKind.u8.wrap s.lv = s.lv := by rw [IntKind.wrap_u8]; omega
  have hu9 : IntKind.u8.wrap (bitI s.fn) = bitI s.fn := by rw [IntKind.wrap_u8]; have := bit_byt s.fn; omega
  have H := Lib.hid (⟨hT, hx, fine_three hf, hr1, hB0, one_byt hf⟩ : _ ∧ _ ∧ _ ∧ _ ∧ _ ∧ _)
  have HW := Lib.hid (⟨hu8, hu9⟩ : _ ∧ _)
  obtain ⟨k0, k1, k2, k3, k4⟩ := hx.cells
  clear hT hx hf hr1 hB0 hlv hu8 hu9
  go_enter Tryd.func41, Tryd.ntmps41
  go_wp2_with fail
  refine (long_three _ 3 _ _ _ _ H.out.2.2.2.1 H.out.2.2.1).mono ?_
  rintro e w1 ⟨A1, c1, rfl, hc1, hr1, hb1⟩
  have hB1 := H.out.2.2.2.2.1.trans (hb1.mono H.out.2.2.2.2.1.size)
  have own1 := own_lit w1 (base := w.heap.size) (g := w1.heap.size) (e := 5) [Value.int .u8 1] rfl hB1.size (by simp [maxLen])
  have hr1' : Rd (w1.alloc (.cells #[.int .u8 1] 5)) (w1.alloc (.cells #[.int .u8 1] 5)).heap.size .u8 A1 15 (Nu.longsOf [s.ix, s.tm, s.sm]) := hr1.on ((Below.refl _ w1).alloc (Nat.le_refl _) (.cells #[.int .u8 1] 5)) (by simp)
  have H1 := Lib.hid (⟨own1, hr1', hB1.alloc hB1.size (.cells #[.int .u8 1] 5), hB1.size⟩ : _ ∧ _ ∧ _ ∧ _)
  clear own1 hr1' hr1 hb1 hB1 hc1 k0 k1 k2 k3 k4
  go_wp2_with (at_builtin; refine hold ?_)
  refine unhold (wpList_append (.tmp 20) (.tmp 21) 24 Tryd.underlying24 hi hz0 hz1 hz2 Nu.byte_cells (by decide) H1.out.1 (Source.rd H1.out.2.1) (by unfold maxLen; decide) (by decide) H1.out.2.2.1.size rfl rfl rfl rfl ?_)
  intro v2 w2 L2
  obtain ⟨A2, c2, rfl, hc2, own2, hB2, n2⟩ := Longer.more (B := w.heap.size) H1.out.2.2.1 H1.out.2.2.1.size (fun g hg => by simp [Value.ownBlock] at hg; have := H1.out.2.2.2; omega) L2
  clear L2
  have H2 := Lib.hid (⟨own2, hB2, n2⟩ : _ ∧ _ ∧ _)
  clear own2 hB2 n2 hc2
  go_wp2_with fail
  refine wp_region_held_drew (S := (fun W => Below w.heap.size w W)) (by kernel_rfl) H2.out.2.1.drew (fun hHeld => ?_)
  refine take_at (i := 0) (d := 23) (oi := ?o35) (v := ?v35) ?hi35 ?hd35 (by kernel_rfl) (by kernel_rfl) (by kernel_rfl) ?hw35 ?hy35 ?hq35 (by assumption) ?r35
  case hi35 => (simp only [List.getElem?_toArray, List.getElem?_cons_zero]; rfl)
  case hd35 => rfl
  case hw35 => rfl
  case hy35 => ((intro w hSw; (try dsimp only at hSw); go_simp) <;> (with_reducible rfl))
  case hq35 => exact fun _ _ _ h => h
  simp only [List.set_cons_succ, List.set_cons_zero]
  refine take_at (i := 1) (d := 24) (oi := ?o36) (v := ?v36) ?hi36 ?hd36 (by kernel_rfl) (by kernel_rfl) (by kernel_rfl) ?hw36 ?hy36 ?hq36 (by assumption) ?r36
  case hi36 => (simp only [List.getElem?_toArray, List.getElem?_cons_succ, List.getElem?_cons_zero]; rfl)
  case hd36 => rfl
  case hw36 => rfl
  case hy36 => ((intro w hSw; (try dsimp only at hSw); go_simp) <;> (with_reducible rfl))
  case hq36 => exact fun _ _ _ h => h
  simp only [List.set_cons_succ, List.set_cons_zero]
  refine take_at (i := 2) (d := 25) (oi := ?o37) (v := ?v37) ?hi37 ?hd37 (by kernel_rfl) (by kernel_rfl) (by kernel_rfl) ?hw37 ?hy37 ?hq37 (by assumption) ?r37
  case hi37 => (simp only [List.getElem?_toArray, List.getElem?_cons_succ, List.getElem?_cons_zero]; rfl)
  case hd37 => rfl
  case hw37 => rfl
  case hy37 => ((intro w hSw; (try dsimp only at hSw); obtain ⟨k0, k1, k2, k3, k4⟩ := (BoxS.cells (s := s) (((Below.block hSw z H.out.2.1.lt)).trans H.out.2.1)); clear hSw; go_simp) <;> (with_reducible rfl))
  case hq37 => exact fun _ _ _ h => h
  simp only [List.set_cons_succ, List.set_cons_zero]
  refine take_at (i := 3) (d := 26) (oi := ?o38) (v := ?v38) ?hi38 ?hd38 (by kernel_rfl) (by kernel_rfl) (by kernel_rfl) ?hw38 ?hy38 ?hq38 (by assumption) ?r38
  case hi38 => (simp only [List.getElem?_toArray, List.getElem?_cons_succ, List.getElem?_cons_zero]; rfl)
  case hd38 => rfl
  case hw38 => rfl
  case hy38 => ((intro w hSw; (try dsimp only at hSw); have q1 := HW.out.1; have q2 := HW.out.2; clear hSw; go_simp) <;> (with_reducible rfl))
  case hq38 => exact fun _ _ _ h => h
  simp only [List.set_cons_succ, List.set_cons_zero]
  refine take_at (i := 4) (d := 27) (oi := ?o39) (v := ?v39) ?hi39 ?hd39 (by kernel_rfl) (by kernel_rfl) (by kernel_rfl) ?hw39 ?hy39 ?hq39 (by assumption) ?r39
  case hi39 => (simp only [List.getElem?_toArray, List.getElem?_cons_succ, List.getElem?_cons_zero]; rfl)
  case hd39 => rfl
  case hw39 => rfl
  case hy39 => ((intro w hSw; (try dsimp only at hSw); obtain ⟨k0, k1, k2, k3, k4⟩ := (BoxS.cells (s := s) (((Below.block hSw z H.out.2.1.lt)).trans H.out.2.1)); clear hSw; go_simp) <;> (with_reducible rfl))
  case hq39 => exact fun _ _ _ h => h
  simp only [List.set_cons_succ, List.set_cons_zero]
  refine call_at (i := 5) (d := 28) (oi := ?o40) (f := ?f40) (args := ?a40) ?hi40 ?hd40 (by kernel_rfl) ?hw40 ?he40 ?hc40
  case hi40 => (simp only [List.getElem?_toArray, List.getElem?_cons_succ, List.getElem?_cons_zero]; rfl)
  case hd40 => rfl
  case hw40 => rfl
  case he40 => (go_simp; constructor <;> with_reducible rfl)
  refine Calls.mono (final_any s _) ?_
  rintro r w3 ⟨rfl, hb3⟩
  have own3 := own_keep (show w2.drew.ownsRow _ _ _ _ _ _ from H2.out.1) hb3
  have kb : Below w.heap.size w w3 := hHeld.trans (hb3.mono hHeld.size)
  refine ⟨_, rfl, kb, fun hHeld => ?_⟩
  simp only [List.set_cons_succ, List.set_cons_zero]
  refine take_at (i := 6) (d := 29) (oi := ?o41) (v := ?v41) ?hi41 ?hd41 (by kernel_rfl) (by kernel_rfl) (by kernel_rfl) ?hw41 ?hy41 ?hq41 (by assumption) ?r41
  case hi41 => (simp only [List.getElem?_toArray, List.getElem?_cons_succ, List.getElem?_cons_zero]; rfl)
  case hd41 => rfl
  case hw41 => rfl
  case hy41 => ((intro w hSw; (try dsimp only at hSw); have q1 := HW.out.1; have q2 := HW.out.2; clear hSw; go_simp) <;> (with_reducible rfl))
  case hq41 => exact fun _ _ _ h => h
  simp only [List.set_cons_succ, List.set_cons_zero]
  obtain ⟨wv, hwv⟩ : ∃ x, x = w3.alloc (.cells #[.int .u8 s.lv, .int .u8 (bitI s.fn)] 5) := ⟨_, rfl⟩
  have hSv : Below w.heap.size w wv := by rw [hwv]; exact kb.alloc kb.size _
  have srcv : Source wv 1 (some ⟨w3.heap.size, 0, none⟩) 2 ([s.lv, bitI s.fn].map (Value.int .u8)) := by rw [hwv]; exact Source.rd (Rd.made w3 .u8 5 [s.lv, bitI s.fn] rfl)
  have ownv := own_keep own3 (show Below w3.heap.size w3 wv by rw [hwv]; exact (Below.refl _ w3).alloc (Nat.le_refl _) _)
  refine wpAnyH_ready (rs := [7]) (by kernel_rfl) (by simp) ?_
  refine br_val (i := 7) (d := 30) (oi := ?o42) (v := (.slice (some ⟨w3.heap.size, 0, none⟩) 2 2)) (w' := wv) ?hi42 ?hd42 ?hw42 ?he42 hSv ?hc42
  case hi42 => (simp only [List.getElem?_toArray, List.getElem?_cons_succ, List.getElem?_cons_zero]; rfl)
  case hd42 => rfl
  case hw42 => rfl
  case he42 => (rw [hwv]; clear hwv; go_simp; try rfl)
  intro hHeld
  simp only [List.set_cons_succ, List.set_cons_zero]
  obtain ⟨v4, w4, hrunA, LA⟩ := run_append (P := Tryd.prog) (c := 2) (ty := 24) Tryd.underlying24 hi hz0 hz1 hz2 rfl (by decide) ownv srcv (by unfold maxLen; decide) (by decide) hSv.size
  obtain ⟨A4, c4, rfl, hc4, own4, hB4, n4⟩ := Longer.more (B := w.heap.size) hSv hSv.size H2.out.2.2 LA
  have hrd4 : Rd w4 w4.heap.size .u8 A4 (1 + 15 + 2) (oneL s) := rd_own own4 (by simp [oneL])
  refine wpAnyH_ready (rs := [8]) (by kernel_rfl) (by simp) ?_
  refine br_val (i := 8) (d := 31) (oi := ?o43) (v := (.slice A4 (1 + 15 + 2) c4)) (w' := w4) ?hi43 ?hd43 ?hw43 ?he43 hB4 ?hc43
  case hi43 => (simp only [List.getElem?_toArray, List.getElem?_cons_succ, List.getElem?_cons_zero]; rfl)
  case hd43 => rfl
  case hw43 => rfl
  case he43 => (exact exec_append rfl rfl rfl hrunA)
  intro hHeld
  simp only [List.set_cons_succ, List.set_cons_zero]
  refine call_at (i := 9) (d := 32) (oi := ?o44) (f := ?f44) (args := ?a44) ?hi44 ?hd44 (by kernel_rfl) ?hw44 ?he44 ?hc44
  case hi44 => (simp only [List.getElem?_toArray, List.getElem?_cons_succ, List.getElem?_cons_zero]; rfl)
  case hd44 => rfl
  case hw44 => rfl
  case he44 => (go_simp; constructor <;> with_reducible rfl)
  refine (Cr.put_c A4 (1 + 15 + 2) c4 (oneL s) w4 (H.out.1.on hB4) hrd4 H.out.2.2.2.2.2 hc4 (by decide)).mono ?_
  rintro r w5 ⟨⟨x, A5, c5, hx5, rfl, hc5, hr5⟩, hb5⟩
  have kc : Below w.heap.size w w5 := hB4.trans (hb5.mono hB4.size)
  refine ⟨_, rfl, kc, fun hHeld => ?_⟩
  simp only [List.set_cons_succ, List.set_cons_zero]
  refine take_at (i := 10) (d := 1) (oi := ?o45) (v := ?v45) ?hi45 ?hd45 (by kernel_rfl) (by kernel_rfl) (by kernel_rfl) ?hw45 ?hy45 ?hq45 (by assumption) ?r45
  case hi45 => (simp only [List.getElem?_toArray, List.getElem?_cons_succ, List.getElem?_cons_zero]; rfl)
  case hd45 => rfl
  case hw45 => rfl
  case hy45 => ((intro w hSw; (try dsimp only at hSw); go_simp) <;> (with_reducible rfl))
  case hq45 => exact fun _ _ _ h => h
  simp only [List.set_cons_succ, List.set_cons_zero]
  refine take_at (i := 11) (d := 2) (oi := ?o46) (v := ?v46) ?hi46 ?hd46 (by kernel_rfl) (by kernel_rfl) (by kernel_rfl) ?hw46 ?hy46 ?hq46 (by assumption) ?r46
  case hi46 => (simp only [List.getElem?_toArray, List.getElem?_cons_succ, List.getElem?_cons_zero]; rfl)
  case hd46 => rfl
  case hw46 => rfl
  case hy46 => ((intro w hSw; (try dsimp only at hSw); go_simp) <;> (with_reducible rfl))
  case hq46 => exact fun _ _ _ h => h
  simp only [List.set_cons_succ, List.set_cons_zero]
  refine wpAnyH_done (by kernel_rfl) ?_ _
  have hs5 : snap1 s = oneL s ++ Cr.fourI x := by rw [snap1, sealL, hx5.sum]
  have HB := Lib.hid (⟨hc5, hr5, kc, hs5⟩ : _ ∧ _ ∧ _ ∧ _)
  clear hx5 hc5 hr5 hb5 kc hs5 hHeld hrd4 own4 hB4 n4 LA hrunA hc4 ownv srcv hSv kb own3 hb3 hwv
  go_wp2_with fail
  go_ret2
  obtain ⟨hc5, hr5, kc, hs5⟩ := HB.out
  exact Told.some_ rfl hc5 (by rw [hs5]; exact hr5) kc

theorem many_wrap {q : Nat} (h : q ≤ 25) : (IntKind.i64.wrap ((q : Int) + 4) = ((q + 4 : Nat) : Int) ∧ IntKind.i64.wrap (((q + 4 : Nat) : Int) - 1) = ((q + 3 : Nat) : Int)) ∧ (IntKind.i64.wrap ((q : Int) + 3) = ((q + 3 : Nat) : Int) ∧ IntKind.i64.wrap (Int.tdiv ((q + 3 : Nat) : Int) 4) = (((q + 3) / 4 : Nat) : Int)) ∧ IntKind.u8.wrap (((q + 3) / 4 : Nat) : Int) = (((q + 3) / 4 : Nat) : Int) := by
  have e : Int.tdiv ((q + 3 : Nat) : Int) 4 = (((q + 3) / 4 : Nat) : Int) := by rw [Int.tdiv_eq_ediv_of_nonneg (by omega)]; omega
  refine ⟨⟨?_, ?_⟩, ⟨?_, ?_⟩, ?_⟩
  · rw [IntKind.wrap_i64] <;> omega
  · rw [IntKind.wrap_i64] <;> omega
  · rw [IntKind.wrap_i64] <;> omega
  · rw [e, IntKind.wrap_i64] <;> omega
  · rw [IntKind.wrap_u8]; omega

set_option maxRecDepth 100000 in
set_option maxHeartbeats 1000000 in
theorem two_any (z : Nat) (s : StP) (w : World) (hx : BoxS w z s) (hf : fineB s = true) : Calls Tryd.prog 44 #[.pointer (some ⟨z, 0, none⟩)] w (Told w (snap2 s, 0)) := by
  obtain ⟨i0, hi, hz0, hz1, hz2⟩ := info_parts Nu.info_byte
  have hTx := Text_any s w
  rw [textP_yes hf] at hTx
  obtain ⟨q, hq⟩ : ∃ q, (textL s).length = q := ⟨_, rfl⟩
  have hq25 := (text_len hf).2
  rw [hq] at hq25
  obtain ⟨m, hm⟩ : ∃ m, m = (q + 3) / 4 := ⟨_, rfl⟩
  have hw := many_wrap hq25
  rw [← hm] at hw
  have H := Lib.hid (⟨hTx, hq, hm, text_byt hf, hw⟩ : _ ∧ _ ∧ _ ∧ _ ∧ _)
  obtain ⟨k0, k1, k2, k3, k4⟩ := hx.cells
  clear hTx hx hf hq hm hw
  go_enter Tryd.func44, Tryd.ntmps44
  go_wp2_with fail
  refine Calls.mono H.out.1 ?_
  rintro e w1 ⟨⟨A1, c1, rfl, hc1, hr1⟩, hb1⟩
  dsimp only at hc1 hr1 ⊢
  rw [H.out.2.1] at hc1 hr1 ⊢
  obtain ⟨w2, hw2'⟩ : ∃ x, x = w1.alloc (.cells #[.int .u8 2, .int .u8 (m : Int)] 5) := ⟨_, rfl⟩
  have own2 : w2.ownsRow w.heap.size 5 1 (.slice (some ⟨w1.heap.size, 0, none⟩) 2 2) 2 ([2, (m : Int)].map (Value.int .u8)) := by
    rw [hw2']
    exact own_lit w1 (base := w.heap.size) (g := w1.heap.size) (e := 5) [Value.int .u8 2, Value.int .u8 (m : Int)] rfl hb1.size (by simp [maxLen])
  have hB2 : Below w.heap.size w w2 := by rw [hw2']; exact hb1.alloc hb1.size _
  have hr2 := hr1.on (show Below w1.heap.size w1 w2 by rw [hw2']; exact (Below.refl _ w1).alloc (Nat.le_refl _) _) (show w1.heap.size ≤ w2.heap.size by rw [hw2']; simp)
  have H2 := Lib.hid (⟨own2, hB2, hr2, hw2', hb1.size, hc1⟩ : _ ∧ _ ∧ _ ∧ _ ∧ _ ∧ _)
  clear own2 hB2 hr2 hw2' hb1 hr1 hc1 k0 k1 k2 k3 k4
  go_wp2_with fail
  rw [show ((q : Int) + 4 - 1) / 4 = (m : Int) by rw [H.out.2.2.1]; omega]
  rw [← H2.out.2.2.2.1]
  refine (Pieces_any A1 q c1 (textL s) w2 H2.out.2.2.1 H.out.2.2.2.1 H2.out.2.2.2.2.2 (by omega)).mono ?_
  rintro e w3 ⟨A3, c3, n3, rfl, hn3, own3, hb3⟩
  have hn70 : n3 ≤ 70 := by
    rw [← hn3, piecesL, piece_len, H.out.2.1]
    omega
  have own2' := own_keep H2.out.1 hb3
  have hr3 := Rd.of_own own3
  have H3 := Lib.hid (⟨own2', hr3, H2.out.2.1.trans (hb3.mono H2.out.2.1.size), hn3⟩ : _ ∧ _ ∧ _ ∧ _)
  clear own2' hr3 hb3 own3 hn3
  go_wp2_with (at_builtin; refine hold ?_)
  refine unhold (wpList_append (.tmp 21) (.tmp 23) 24 Tryd.underlying24 hi hz0 hz1 hz2 Nu.byte_cells (by decide) H3.out.1 (Source.rd H3.out.2.1) (by unfold maxLen; omega) (by omega) H3.out.2.2.1.size rfl rfl rfl rfl ?_)
  intro v4 w4 L4
  obtain ⟨A4, c4, rfl, hc4, own4, hB4, -⟩ := Longer.more (B := w.heap.size) H3.out.2.2.1 H3.out.2.2.1.size (fun g hg => by simp [Value.ownBlock] at hg; have := H2.out.2.2.2.2.1; omega) L4
  have hr4 : Rd w4 w4.heap.size .u8 A4 (2 + n3) (snap2 s) := rd_own own4 (by
    rw [snap2, manyL, H.out.2.1, ← H.out.2.2.1]
    rfl)
  have H4 := Lib.hid (⟨hc4, hr4, hB4⟩ : _ ∧ _ ∧ _)
  clear L4 own4 hB4 hr4 hc4
  go_wp2_with fail
  go_ret2
  exact Told.some_ rfl H4.out.1 H4.out.2.1 H4.out.2.2

theorem info_put : (Tryd.prog.info? 41).map (fun i => (i.zero, i.size, i.bytes)) = some (some .nilFunc, 1, 8) := by kernel_rfl
theorem index_put (F0 F1 F2 : Value) (w : World) : (Instr.index 42 (.agg #[F0, F1, F2]) (.int .i64 1)).run Tryd.prog w = .ok F1 w ∧ (Instr.index 42 (.agg #[F0, F1, F2]) (.int .i64 2)).run Tryd.prog w = .ok F2 w := by
  obtain ⟨i0, hi, hz0, hz1, hz2⟩ := info_partsV info_put
  constructor <;>
  simp [Instr.index, run_underlying Tryd.underlying42, asIntOf, sizeOf, run_typeInfo, hi, hz1, part, Tryd.isAgg41, go_sem]

set_option maxRecDepth 100000 in
set_option maxHeartbeats 1000000 in
theorem puts_any (s : StP) (w : World) : Calls Tryd.prog 22 #[s.v] w fun e w' => e = .returned (.agg #[.nilFunc, .func (.func 41) #[] #[.pointer (some ⟨w.heap.size, 0, none⟩)], .func (.func 44) #[] #[.pointer (some ⟨w.heap.size, 0, none⟩)]]) ∧ BoxS w' w.heap.size s ∧ Below w.heap.size w w' := by
  obtain ⟨wx, hwx⟩ : ∃ wx, wx = w.alloc (.cells #[.int .i64 s.ix, .int .i64 s.tm, .int .i64 s.sm, .int .i64 s.lv, .bool s.fn] 23) := ⟨_, rfl⟩
  have bx : BoxS wx w.heap.size s := by rw [hwx]; exact BoxS.new w s
  have hBx : Below w.heap.size w wx := by rw [hwx]; exact (Below.refl _ w).alloc (Nat.le_refl _) _
  have H := Lib.hid (⟨hwx, bx, hBx⟩ : _ ∧ _ ∧ _)
  unfold StP.v
  clear hwx bx hBx
  go_enter Tryd.func22, Tryd.ntmps22
  go_wp2_with fail
  obtain ⟨F1, hF1⟩ : ∃ F, F = Value.func (.func 41) #[] #[.pointer (some ⟨w.heap.size, 0, none⟩)] := ⟨_, rfl⟩
  obtain ⟨F2, hF2⟩ : ∃ F, F = Value.func (.func 44) #[] #[.pointer (some ⟨w.heap.size, 0, none⟩)] := ⟨_, rfl⟩
  rw [← H.out.1, ← hF1, ← hF2]
  have hs : wx.heap.size = w.heap.size + 1 := by rw [H.out.1]; simp
  have h2 := World.alloc_heap_new wx (.cells #[.nilFunc, F1, F2] 42)
  rw [hs] at h2
  obtain ⟨w2, hw2⟩ : ∃ x, x = wx.alloc (.cells #[.nilFunc, F1, F2] 42) := ⟨_, rfl⟩
  have hB : Below wx.heap.size wx w2 := by rw [hw2]; exact (Below.refl _ wx).alloc (Nat.le_refl _) _
  rw [← hw2] at h2 ⊢
  have c0 : w2.cell? ⟨w.heap.size + 1, 0, none⟩ = some .nilFunc := by rw [cell_of_row _ _ _ _ _ _ h2]; rfl
  have c1 : w2.cell? ⟨w.heap.size + 1, 1, none⟩ = some F1 := by rw [cell_of_row _ _ _ _ _ _ h2]; rfl
  have c2 : w2.cell? ⟨w.heap.size + 1, 2, none⟩ = some F2 := by rw [cell_of_row _ _ _ _ _ _ h2]; rfl
  have H2 := Lib.hid (⟨hB, hw2⟩ : _ ∧ _)
  clear hB hw2 hs h2
  refine bodyPost_ret (v := .agg #[.nilFunc, F1, F2]) (by simp [results, Tryd.results22, go_sem, c0, c1, c2]) rfl ?_
  exact ⟨rfl, H.out.2.1.below H2.out.1, H.out.2.2.trans (H2.out.1.mono H.out.2.2.size)⟩

set_option maxRecDepth 100000 in
set_option maxHeartbeats 1000000 in
theorem Put_any (s : StP) (f : Int) (w : World) (hT : Cr.Tab w) : Calls Tryd.prog 9 #[s.v, .int .i64 f] w (Told w (putP s f)) := by
  obtain ⟨wx, hwx⟩ : ∃ wx, wx = w.alloc (.cells #[.int .i64 s.ix, .int .i64 s.tm, .int .i64 s.sm, .int .i64 s.lv, .bool s.fn] 23) := ⟨_, rfl⟩
  obtain ⟨z, hz⟩ : ∃ z, z = w.heap.size := ⟨_, rfl⟩
  have bx : BoxS wx z s := by rw [hwx, hz]; exact BoxS.new w s
  have hBx : Below w.heap.size w wx := by rw [hwx]; exact (Below.refl _ w).alloc (Nat.le_refl _) _
  obtain ⟨k0, k1, k2, k3, k4⟩ := bx.cells
  have Hf := Lib.hid (fine_any s wx)
  have HT := Lib.hid hT
  unfold StP.v at Hf ⊢
  have H := Lib.hid (⟨hwx, hz, bx, hBx⟩ : _ ∧ _ ∧ _ ∧ _)
  rw [hwx, hz] at k0 k1 k2 k3 k4
  clear hwx hz bx hBx hT
  by_cases f1 : f = 1
  · subst f1
    go_enter Tryd.func9, Tryd.ntmps9
    go_wp2_with fail
    rw [← H.out.1, ← H.out.2.1]
    refine Hf.out.mono ?_
    rintro e w2 ⟨rfl, hb2⟩
    obtain ⟨hwx, hz, bx, hBx⟩ := H.out
    have b2 := bx.below hb2
    have hB2 := hBx.trans (hb2.mono hBx.size)
    obtain ⟨k0, k1, k2, k3, k4⟩ := b2.cells
    cases hF : fineB s with
    | false =>
      have H2 := Lib.hid (⟨(putP_no (fun h => by rw [hF] at h; cases h.1) : putP s 1 = ([], 2)), hB2⟩ : _ ∧ _)
      clear b2 hB2 hb2 bx hBx k0 k1 k2 k3 k4 hwx hz
      go_wp2_with fail
      go_ret2
      exact Told.none_ H2.out.1 H2.out.2
    | true =>
      have H2 := Lib.hid (⟨(putP_yes hF (.inl rfl) : putP s 1 = _), hB2, hF⟩ : _ ∧ _ ∧ _)
      clear b2 hb2 bx hBx hwx hz
      go_wp2_with fail
      refine Calls.mono (puts_any s w2) ?_
      rintro e w3 ⟨rfl, hx3, hb3⟩
      have hB3 := H2.out.2.1.trans (hb3.mono H2.out.2.1.size)
      have HB3 := Lib.hid (⟨hx3, hB3⟩ : _ ∧ _)
      have hix : ∀ W : World, (Instr.index 42 (.agg #[.nilFunc, .func (.func 41) #[] #[.pointer (some ⟨w2.heap.size, 0, none⟩)], .func (.func 44) #[] #[.pointer (some ⟨w2.heap.size, 0, none⟩)]]) (.int .i64 1)).run Tryd.prog W = .ok (.func (.func 41) #[] #[.pointer (some ⟨w2.heap.size, 0, none⟩)]) W := fun W => (index_put _ _ _ W).1
      clear hx3 hB3 hb3 hB2 k0 k1 k2 k3 k4 hF
      go_wp2_with fail
      clear hix
      refine Calls.mono (one_any _ s w3 (HT.out.on HB3.out.2) HB3.out.1 H2.out.2.2) ?_
      rintro e w4 ⟨⟨A4, c4, rfl, hc4, hr4⟩, hb4⟩
      dsimp only at hc4 hr4 ⊢
      obtain ⟨q, hq⟩ : ∃ q, (snap1 s).length = q := ⟨_, rfl⟩
      rw [hq] at hc4 hr4 ⊢
      have HB4 := Lib.hid (⟨hc4, hr4, HB3.out.2.trans (hb4.mono HB3.out.2.size)⟩ : _ ∧ _ ∧ _)
      clear hc4 hr4 hb4 hq
      go_wp2_with fail
      go_ret2
      exact Told.some_ (H2.out.1.trans (by rw [snapL_one])) HB4.out.1 HB4.out.2.1 HB4.out.2.2
  by_cases f2 : f = 2
  · subst f2
    go_enter Tryd.func9, Tryd.ntmps9
    go_wp2_with fail
    rw [← H.out.1, ← H.out.2.1]
    refine Hf.out.mono ?_
    rintro e w2 ⟨rfl, hb2⟩
    obtain ⟨hwx, hz, bx, hBx⟩ := H.out
    have b2 := bx.below hb2
    have hB2 := hBx.trans (hb2.mono hBx.size)
    obtain ⟨k0, k1, k2, k3, k4⟩ := b2.cells
    cases hF : fineB s with
    | false =>
      have H2 := Lib.hid (⟨(putP_no (fun h => by rw [hF] at h; cases h.1) : putP s 2 = ([], 2)), hB2⟩ : _ ∧ _)
      clear b2 hB2 hb2 bx hBx k0 k1 k2 k3 k4 hwx hz
      go_wp2_with fail
      go_ret2
      exact Told.none_ H2.out.1 H2.out.2
    | true =>
      have H2 := Lib.hid (⟨(putP_yes hF (.inr rfl) : putP s 2 = _), hB2, hF⟩ : _ ∧ _ ∧ _)
      clear b2 hb2 bx hBx hwx hz
      go_wp2_with fail
      refine Calls.mono (puts_any s w2) ?_
      rintro e w3 ⟨rfl, hx3, hb3⟩
      have hB3 := H2.out.2.1.trans (hb3.mono H2.out.2.1.size)
      have HB3 := Lib.hid (⟨hx3, hB3⟩ : _ ∧ _)
      have hix : ∀ W : World, (Instr.index 42 (.agg #[.nilFunc, .func (.func 41) #[] #[.pointer (some ⟨w2.heap.size, 0, none⟩)], .func (.func 44) #[] #[.pointer (some ⟨w2.heap.size, 0, none⟩)]]) (.int .i64 2)).run Tryd.prog W = .ok (.func (.func 44) #[] #[.pointer (some ⟨w2.heap.size, 0, none⟩)]) W := fun W => (index_put _ _ _ W).2
      clear hx3 hB3 hb3 hB2 k0 k1 k2 k3 k4 hF
      go_wp2_with fail
      clear hix
      refine Calls.mono (two_any _ s w3 HB3.out.1 H2.out.2.2) ?_
      rintro e w4 ⟨⟨A4, c4, rfl, hc4, hr4⟩, hb4⟩
      dsimp only at hc4 hr4 ⊢
      obtain ⟨q, hq⟩ : ∃ q, (snap2 s).length = q := ⟨_, rfl⟩
      rw [hq] at hc4 hr4 ⊢
      have HB4 := Lib.hid (⟨hc4, hr4, HB3.out.2.trans (hb4.mono HB3.out.2.size)⟩ : _ ∧ _ ∧ _)
      clear hc4 hr4 hb4 hq
      go_wp2_with fail
      go_ret2
      exact Told.some_ (H2.out.1.trans (by rw [snapL_two])) HB4.out.1 HB4.out.2.1 HB4.out.2.2
  · have H3 := Lib.hid (putP_no (fun h => h.2.elim f1 f2) : putP s f = ([], 2))
    go_enter Tryd.func9, Tryd.ntmps9
    go_wp2_with fail
    rw [← H.out.1, ← H.out.2.1]
    refine Hf.out.mono ?_
    rintro e w2 ⟨rfl, hb2⟩
    obtain ⟨hwx, hz, bx, hBx⟩ := H.out
    have b2 := bx.below hb2
    have hB2 := hBx.trans (hb2.mono hBx.size)
    obtain ⟨k0, k1, k2, k3, k4⟩ := b2.cells
    have HB2 := Lib.hid hB2
    clear b2 hB2 hb2 bx hBx k0 k1 k2 k3 k4 hwx hz
    have e1 : (f != 1) = true := by simpa using f1
    have e2 : (f != 2) = true := by simpa using f2
    cases fineB s <;> (
      go_wp2_with fail
      go_ret2
      exact Told.none_ H3.out HB2.out)

end Go.Proofs.YtdggacabjlengaaDoor
