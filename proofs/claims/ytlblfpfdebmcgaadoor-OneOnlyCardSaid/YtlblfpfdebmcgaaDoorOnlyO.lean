/-
  OneOnly: it returns true.
-/
import Derived.Test.YtlblfpfdebmcgaaDoorWakesO
namespace Go.Proofs.YtlblfpfdebmcgaaDoor
open Go.RowKit
set_option linter.unusedVariables false
set_option linter.unusedSimpArgs false

set_option maxRecDepth 100000 in
set_option maxHeartbeats 4000000 in
theorem only_law (A : Option Addr) (n c : Nat) (b : List Int) (w : World) (hT : Cr.Tab w) (hr : Rd w w.heap.size .u8 A n b) (hb : Byt b) (hnc : n ≤ c) :
    Calls Tryd.prog 5 #[.slice A n c] w fun e w' => e = .returned (.bool true) ∧ Below w.heap.size w w' := by
  obtain ⟨i0, hi, hz0, hz1, hz2⟩ := info_parts Cr.info_u8
  have HL := Lib.hid (⟨hT, hr, hb⟩ : _ ∧ _ ∧ _)
  clear hT hr hb
  by_cases hbig : 900 < n
  · have t0 : decide ((900 : Int) < (n : Int)) = true := by simp; omega
    go_enter Tryd.func5, Tryd.ntmps5
    go_wp2_with fail
    refine (wakes_true w HL.out.1).mono ?_
    rintro e w1 ⟨rfl, hb1⟩
    go_wp2_with fail
    go_ret
    exact ⟨rfl, hb1⟩
  have t0 : decide ((900 : Int) < (n : Int)) = false := by simp; omega
  have hlen := HL.out.2.1.1
  cases hh : headO b with
  | none =>
    have HP := Lib.hid (scanP_none hh)
    clear hh hlen
    go_enter Tryd.func5, Tryd.ntmps5
    go_wp2_with fail
    refine (scan_any A n c b w HL.out.1 HL.out.2.1 HL.out.2.2 hnc (by omega)).mono ?_
    intro e w1 h1
    obtain ⟨A1, c1, rfl, -, -, B1⟩ := h1.out HP.out (q := 0) rfl
    clear h1
    obtain ⟨w2, hw2⟩ : ∃ w2, w2 = w1.alloc (.cells #[.int .i64 0, .slice A1 0 c1, .int .i64 0] 33) := ⟨_, rfl⟩
    obtain ⟨z, hz⟩ : ∃ z, z = w1.heap.size := ⟨_, rfl⟩
    have bz2 : BoxC w2 z 0 (.slice A1 0 c1) 0 := by rw [hw2, hz]; exact BoxC.new _ _ _ _
    have B2 : Below w.heap.size w w2 := by rw [hw2]; exact B1.alloc B1.size _
    obtain ⟨d0, d1, d2⟩ := bz2.cells
    have H2 := Lib.hid (⟨B2, hw2, hz⟩ : _ ∧ _ ∧ _)
    rw [hw2, hz] at d0 d1 d2
    clear bz2 B2 hw2 hz B1
    go_wp2_with fail
    rw [← H2.out.2.1]
    clear d0 d1 d2
    refine (wakes_true w2 (HL.out.1.on H2.out.1)).mono ?_
    rintro e w3 ⟨rfl, hb3⟩
    go_wp2_with fail
    go_ret
    exact ⟨rfl, H2.out.1.trans (hb3.mono H2.out.1.size)⟩
  | some f =>
    obtain ⟨hf, hal, hput, hle⟩ := scan_only HL.out.2.2 hh
    rw [hlen] at hle
    obtain ⟨L, hL⟩ : ∃ L, L = scanL (b.drop 6) := ⟨_, rfl⟩
    have hS := scanP_some hh
    rw [← hL] at hal hput hle hS
    obtain ⟨N, hN⟩ : ∃ N, L.length = N := ⟨_, rfl⟩
    obtain ⟨U, hU⟩ : ∃ U, U = 6 + 15 * N := ⟨_, rfl⟩
    rw [hN, ← hU] at hput hle
    rw [hN, show 6 + 15 * (N : Int) = (U : Int) by omega] at hS
    have hfile : fileP f L = (headL f ++ recsL L, 0) := if_pos ⟨hf, hal⟩
    rw [hput] at hfile
    have hUl : (b.take U).length = U := by rw [List.length_take]; omega
    have hsz : sizeP (N : Int) = (U : Int) := by unfold sizeP; omega
    have HP := Lib.hid (⟨hS, hN, hU, hfile, hUl, hsz⟩ : _ ∧ _ ∧ _ ∧ _ ∧ _ ∧ _)
    have hU6 : ¬ (U : Int) < 6 := by omega
    have hUn : ¬ (n : Int) < (U : Int) := by omega
    have d6 : decide ((U : Int) < 6) = false := by simp; omega
    have d7 : decide ((n : Int) < (U : Int)) = false := by simp; omega
    clear hh hlen hf hal hput hL hS hN hU hfile hUl hsz
    go_enter Tryd.func5, Tryd.ntmps5
    go_wp2_with fail
    refine (scan_any A n c b w HL.out.1 HL.out.2.1 HL.out.2.2 hnc (by omega)).mono ?_
    intro e w1 h1
    obtain ⟨A1, c1, rfl, -, s1, B1⟩ := h1.out HP.out.1 HP.out.2.1
    clear h1
    obtain ⟨w2, hw2⟩ : ∃ w2, w2 = w1.alloc (.cells #[.int .i64 f, .slice A1 N c1, .int .i64 (U : Int)] 33) := ⟨_, rfl⟩
    obtain ⟨z, hz⟩ : ∃ z, z = w1.heap.size := ⟨_, rfl⟩
    have bz2 : BoxC w2 z f (.slice A1 N c1) (U : Int) := by rw [hw2, hz]; exact BoxC.new _ _ _ _
    have B2 : Below w.heap.size w w2 := by rw [hw2]; exact B1.alloc B1.size _
    have s2 := s1.on (w' := w2) (by rw [hw2]; exact (Below.refl _ _).alloc (Nat.le_refl _) _) (by rw [hw2]; simp : w1.heap.size ≤ w2.heap.size)
    obtain ⟨d0, d1, d2⟩ := bz2.cells
    have H2 := Lib.hid (⟨B2, hw2, hz, s2, bz2⟩ : _ ∧ _ ∧ _ ∧ _ ∧ _)
    rw [hw2, hz] at d0 d1 d2
    clear bz2 B2 hw2 hz B1 s1 s2
    go_wp2_with fail
    rw [← H2.out.2.1]
    clear d0 d1 d2
    refine (file_any f A1 N c1 L w2 (HL.out.1.on H2.out.1) H2.out.2.2.2.1 (by have := HP.out.2.2.1; omega)).mono ?_
    intro e w3 h3
    obtain ⟨A3, c3, rfl, hc3, r3, -, b3⟩ := h3.out HP.out.2.2.2.1 HP.out.2.2.2.2.1
    have B3 := H2.out.1.trans (b3.mono H2.out.1.size)
    have bz3 := H2.out.2.2.2.2.below b3
    obtain ⟨d0, d1, d2⟩ := bz3.cells
    have ra := (HL.out.2.1.on B3 B3.size).first (m := U) hle
    have hcut := Cr.cut_first Tryd.underlying23 hi hz1 A n c U (by omega)
    have X0 := Lib.hid (show ∀ W, Below w3.heap.size w3 W → BoxC W z f (.slice A1 N c1) (U : Int) from fun W hW => bz3.below hW)
    have HR := Lib.hid (⟨r3, ra, HL.out.2.2.take U, B3, H2.out.2.2.1⟩ : _ ∧ _ ∧ _ ∧ _ ∧ _)
    rw [H2.out.2.2.1] at d0 d1 d2 
    clear h3 b3 bz3 r3 ra B3
    go_wp2_with fail
    rw [← HR.out.2.2.2.2]
    clear d0 d1 d2 hU6 hUn d6 d7
    refine wp_region_held_drew (S := (fun W => Below w3.heap.size w3 W)) (by kernel_rfl) (below_dr (below_d0 _)) (fun hHeld => ?_)
    refine take_at (i := 0) (d := 61) (oi := ?o1) (v := ?v1) ?hi1 ?hd1 (by kernel_rfl) (by kernel_rfl) (by kernel_rfl) ?hw1 ?hy1 ?hq1 (by assumption) ?r1
    case hi1 => (simp only [List.getElem?_toArray, List.getElem?_cons_zero]; rfl)
    case hd1 => rfl
    case hw1 => rfl
    case hy1 => ((intro w hSw; (try dsimp only at hSw); go_simp) <;> (with_reducible rfl))
    case hq1 => exact fun _ _ _ h => h
    simp only [List.set_cons_succ, List.set_cons_zero]
    refine take_at (i := 1) (d := 62) (oi := ?o2) (v := ?v2) ?hi2 ?hd2 (by kernel_rfl) (by kernel_rfl) (by kernel_rfl) ?hw2 ?hy2 ?hq2 (by assumption) ?r2
    case hi2 => (simp only [List.getElem?_toArray, List.getElem?_cons_succ, List.getElem?_cons_zero]; rfl)
    case hd2 => rfl
    case hw2 => rfl
    case hy2 => ((intro w hSw; (try dsimp only at hSw); go_simp) <;> (with_reducible rfl))
    case hq2 => exact fun _ _ _ h => h
    simp only [List.set_cons_succ, List.set_cons_zero]
    refine take_at (i := 2) (d := 63) (oi := ?o3) (v := ?v3) ?hi3 ?hd3 (by kernel_rfl) (by kernel_rfl) (by kernel_rfl) ?hw3 ?hy3 ?hq3 (by assumption) ?r3
    case hi3 => (simp only [List.getElem?_toArray, List.getElem?_cons_succ, List.getElem?_cons_zero]; rfl)
    case hd3 => rfl
    case hw3 => rfl
    case hy3 => ((intro w hSw; (try dsimp only at hSw); go_simp) <;> (with_reducible rfl))
    case hq3 => exact fun _ _ _ h => h
    simp only [List.set_cons_succ, List.set_cons_zero]
    refine take_at (i := 3) (d := 64) (oi := ?o4) (v := ?v4) ?hi4 ?hd4 (by kernel_rfl) (by kernel_rfl) (by kernel_rfl) ?hw4 ?hy4 ?hq4 (by assumption) ?r4
    case hi4 => (simp only [List.getElem?_toArray, List.getElem?_cons_succ, List.getElem?_cons_zero]; rfl)
    case hd4 => rfl
    case hw4 => rfl
    case hy4 => ((intro w hSw; (try dsimp only at hSw); obtain ⟨k0, k1, k2⟩ := (X0.out _ hSw).cells; go_simp) <;> (with_reducible rfl))
    case hq4 => exact fun _ _ _ h => h
    simp only [List.set_cons_succ, List.set_cons_zero]
    refine take_at (i := 4) (d := 65) (oi := ?o5) (v := ?v5) ?hi5 ?hd5 (by kernel_rfl) (by kernel_rfl) (by kernel_rfl) ?hw5 ?hy5 ?hq5 (by assumption) ?r5
    case hi5 => (simp only [List.getElem?_toArray, List.getElem?_cons_succ, List.getElem?_cons_zero]; rfl)
    case hd5 => rfl
    case hw5 => rfl
    case hy5 => ((intro w hSw; (try dsimp only at hSw); go_simp) <;> (with_reducible rfl))
    case hq5 => exact fun _ _ _ h => h
    simp only [List.set_cons_succ, List.set_cons_zero]
    refine call_at (i := 5) (d := 66) (oi := ?o6) (f := ?f6) (args := ?a6) ?hi6 ?hd6 (by kernel_rfl) ?hw6 ?he6 ?hc6
    case hi6 => (simp only [List.getElem?_toArray, List.getElem?_cons_succ, List.getElem?_cons_zero]; rfl)
    case hd6 => rfl
    case hw6 => rfl
    case he6 => (go_simp; constructor <;> with_reducible rfl)
    have sm := same_any A3 A U U c3 c _ _ _ (HR.out.1.on hHeld hHeld.size) (HR.out.2.1.on hHeld hHeld.size) HR.out.2.2.1 HR.out.2.2.1
    rw [Cr.eqB_true rfl] at sm
    refine Calls.mono sm ?_
    rintro r wv ⟨rfl, rfl⟩
    clear sm
    refine ⟨_, rfl, hHeld, fun hHeld => ?_⟩
    simp only [List.set_cons_succ, List.set_cons_zero]
    refine take_at (i := 6) (d := 67) (oi := ?o7) (v := ?v7) ?hi7 ?hd7 (by kernel_rfl) (by kernel_rfl) (by kernel_rfl) ?hw7 ?hy7 ?hq7 (by assumption) ?r7
    case hi7 => (simp only [List.getElem?_toArray, List.getElem?_cons_succ, List.getElem?_cons_zero]; rfl)
    case hd7 => rfl
    case hw7 => rfl
    case hy7 => ((intro w hSw; (try dsimp only at hSw); go_simp) <;> (with_reducible rfl))
    case hq7 => exact fun _ _ _ h => h
    simp only [List.set_cons_succ, List.set_cons_zero]
    refine take_at (i := 7) (d := 68) (oi := ?o8) (v := ?v8) ?hi8 ?hd8 (by kernel_rfl) (by kernel_rfl) (by kernel_rfl) ?hw8 ?hy8 ?hq8 (by assumption) ?r8
    case hi8 => (simp only [List.getElem?_toArray, List.getElem?_cons_succ, List.getElem?_cons_zero]; rfl)
    case hd8 => rfl
    case hw8 => rfl
    case hy8 => ((intro w hSw; (try dsimp only at hSw); go_simp) <;> (with_reducible rfl))
    case hq8 => exact fun _ _ _ h => h
    simp only [List.set_cons_succ, List.set_cons_zero]
    refine take_at (i := 8) (d := 69) (oi := ?o9) (v := ?v9) ?hi9 ?hd9 (by kernel_rfl) (by kernel_rfl) (by kernel_rfl) ?hw9 ?hy9 ?hq9 (by assumption) ?r9
    case hi9 => (simp only [List.getElem?_toArray, List.getElem?_cons_succ, List.getElem?_cons_zero]; rfl)
    case hd9 => rfl
    case hw9 => rfl
    case hy9 => ((intro w hSw; (try dsimp only at hSw); obtain ⟨k0, k1, k2⟩ := (X0.out _ hSw).cells; go_simp) <;> (with_reducible rfl))
    case hq9 => exact fun _ _ _ h => h
    simp only [List.set_cons_succ, List.set_cons_zero]
    refine take_at (i := 9) (d := 70) (oi := ?o10) (v := ?v10) ?hi10 ?hd10 (by kernel_rfl) (by kernel_rfl) (by kernel_rfl) ?hw10 ?hy10 ?hq10 (by assumption) ?r10
    case hi10 => (simp only [List.getElem?_toArray, List.getElem?_cons_succ, List.getElem?_cons_zero]; rfl)
    case hd10 => rfl
    case hw10 => rfl
    case hy10 => ((intro w hSw; (try dsimp only at hSw); go_simp) <;> (with_reducible rfl))
    case hq10 => exact fun _ _ _ h => h
    simp only [List.set_cons_succ, List.set_cons_zero]
    refine take_at (i := 11) (d := 72) (oi := ?o11) (v := ?v11) ?hi11 ?hd11 (by kernel_rfl) (by kernel_rfl) (by kernel_rfl) ?hw11 ?hy11 ?hq11 (by assumption) ?r11
    case hi11 => (simp only [List.getElem?_toArray, List.getElem?_cons_succ, List.getElem?_cons_zero]; rfl)
    case hd11 => rfl
    case hw11 => rfl
    case hy11 => ((intro w hSw; (try dsimp only at hSw); go_simp) <;> (with_reducible rfl))
    case hq11 => exact fun _ _ _ h => h
    simp only [List.set_cons_succ, List.set_cons_zero]
    refine take_at (i := 12) (d := 73) (oi := ?o12) (v := ?v12) ?hi12 ?hd12 (by kernel_rfl) (by kernel_rfl) (by kernel_rfl) ?hw12 ?hy12 ?hq12 (by assumption) ?r12
    case hi12 => (simp only [List.getElem?_toArray, List.getElem?_cons_succ, List.getElem?_cons_zero]; rfl)
    case hd12 => rfl
    case hw12 => rfl
    case hy12 => ((intro w hSw; (try dsimp only at hSw); obtain ⟨k0, k1, k2⟩ := (X0.out _ hSw).cells; go_simp) <;> (with_reducible rfl))
    case hq12 => exact fun _ _ _ h => h
    simp only [List.set_cons_succ, List.set_cons_zero]
    refine call_at (i := 10) (d := 71) (oi := ?o13) (f := ?f13) (args := ?a13) ?hi13 ?hd13 (by kernel_rfl) ?hw13 ?he13 ?hc13
    case hi13 => (simp only [List.getElem?_toArray, List.getElem?_cons_succ, List.getElem?_cons_zero]; rfl)
    case hd13 => rfl
    case hw13 => rfl
    case he13 => (go_simp; constructor <;> with_reducible rfl)
    have sm := fun W => size_any (N : Int) W
    rw [HP.out.2.2.2.2.2] at sm
    refine Calls.mono (sm _) ?_
    rintro r wv ⟨rfl, rfl⟩
    clear sm
    refine ⟨_, rfl, hHeld, fun hHeld => ?_⟩
    simp only [List.set_cons_succ, List.set_cons_zero]
    refine take_at (i := 13) (d := 74) (oi := ?o14) (v := ?v14) ?hi14 ?hd14 (by kernel_rfl) (by kernel_rfl) (by kernel_rfl) ?hw14 ?hy14 ?hq14 (by assumption) ?r14
    case hi14 => (simp only [List.getElem?_toArray, List.getElem?_cons_succ, List.getElem?_cons_zero]; rfl)
    case hd14 => rfl
    case hw14 => rfl
    case hy14 => ((intro w hSw; (try dsimp only at hSw); go_simp) <;> (with_reducible rfl))
    case hq14 => exact fun _ _ _ h => h
    simp only [List.set_cons_succ, List.set_cons_zero]
    refine take_at (i := 14) (d := 75) (oi := ?o15) (v := ?v15) ?hi15 ?hd15 (by kernel_rfl) (by kernel_rfl) (by kernel_rfl) ?hw15 ?hy15 ?hq15 (by assumption) ?r15
    case hi15 => (simp only [List.getElem?_toArray, List.getElem?_cons_succ, List.getElem?_cons_zero]; rfl)
    case hd15 => rfl
    case hw15 => rfl
    case hy15 => ((intro w hSw; (try dsimp only at hSw); go_simp) <;> (with_reducible rfl))
    case hq15 => exact fun _ _ _ h => h
    simp only [List.set_cons_succ, List.set_cons_zero]
    refine take_at (i := 15) (d := 76) (oi := ?o16) (v := ?v16) ?hi16 ?hd16 (by kernel_rfl) (by kernel_rfl) (by kernel_rfl) ?hw16 ?hy16 ?hq16 (by assumption) ?r16
    case hi16 => (simp only [List.getElem?_toArray, List.getElem?_cons_succ, List.getElem?_cons_zero]; rfl)
    case hd16 => rfl
    case hw16 => rfl
    case hy16 => ((intro w hSw; (try dsimp only at hSw); go_simp) <;> (with_reducible rfl))
    case hq16 => exact fun _ _ _ h => h
    simp only [List.set_cons_succ, List.set_cons_zero]
    refine call_at (i := 16) (d := 77) (oi := ?o17) (f := ?f17) (args := ?a17) ?hi17 ?hd17 (by kernel_rfl) ?hw17 ?he17 ?hc17
    case hi17 => (simp only [List.getElem?_toArray, List.getElem?_cons_succ, List.getElem?_cons_zero]; rfl)
    case hd17 => rfl
    case hw17 => rfl
    case he17 => (go_simp; constructor <;> with_reducible rfl)
    refine Calls.mono (wakes_true _ (HL.out.1.on (HR.out.2.2.2.1.trans (hHeld.mono HR.out.2.2.2.1.size)))) ?_
    rintro r wv ⟨rfl, hb1⟩
    have kb : Below w3.heap.size w3 wv := hHeld.trans (hb1.mono hHeld.size)
    refine ⟨_, rfl, kb, fun hHeld => ?_⟩
    simp only [List.set_cons_succ, List.set_cons_zero]
    refine take_at (i := 17) (d := 78) (oi := ?o18) (v := ?v18) ?hi18 ?hd18 (by kernel_rfl) (by kernel_rfl) (by kernel_rfl) ?hw18 ?hy18 ?hq18 (by assumption) ?r18
    case hi18 => (simp only [List.getElem?_toArray, List.getElem?_cons_succ, List.getElem?_cons_zero]; rfl)
    case hd18 => rfl
    case hw18 => rfl
    case hy18 => ((intro w hSw; (try dsimp only at hSw); go_simp) <;> (with_reducible rfl))
    case hq18 => exact fun _ _ _ h => h
    simp only [List.set_cons_succ, List.set_cons_zero]
    refine take_at (i := 18) (d := 2) (oi := ?o19) (v := ?v19) ?hi19 ?hd19 (by kernel_rfl) (by kernel_rfl) (by kernel_rfl) ?hw19 ?hy19 ?hq19 (by assumption) ?r19
    case hi19 => (simp only [List.getElem?_toArray, List.getElem?_cons_succ, List.getElem?_cons_zero]; rfl)
    case hd19 => rfl
    case hw19 => rfl
    case hy19 => ((intro w hSw; (try dsimp only at hSw); go_simp) <;> (with_reducible rfl))
    case hq19 => exact fun _ _ _ h => h
    simp only [List.set_cons_succ, List.set_cons_zero]
    refine wpAnyH_done (by kernel_rfl) ?_ _
    go_wp2_with fail
    go_ret
    exact ⟨rfl, HR.out.2.2.2.1.trans (hHeld.mono HR.out.2.2.2.1.size)⟩
end Go.Proofs.YtlblfpfdebmcgaaDoor
