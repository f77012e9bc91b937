/-
  TwoCut: it returns true.
-/
import Derived.Test.YtlojkbmoaifkaaaBack8
namespace Go.Proofs.Ytlojkbmoaifkaaa
open Go.RowKit
set_option linter.unusedVariables false
set_option linter.unusedSimpArgs false

/-- What TwoCut asks. -/
theorem cut_bytes {f : Int} {l : List EnP} {n h q : Nat} (hf : Num f) (ha : allR l = true) (hl : l.length = n) (hh : (headL f).length = h) {B : List Int} (hB : B = headL f ++ blksL (headE f) (chunks 4 l)) (hq : B.length = q) {p : Nat} (hp : p < q) :
    (p < h → ∀ g, ¬ HeadAt (B.take p) g) ∧ (¬ p < h → ∃ (cs : List (List EnP)) (r : List Int) (u k : Nat), ScanIs (B.take p) f cs r ∧ cs.flatten = l.take k ∧ (l.take k).length = k ∧ k ≤ n ∧ (k % 4 = 0 ∨ k = n) ∧ (headL f ++ blksL (headE f) cs).length = u ∧ u ≤ p ∧
      B.take u = headL f ++ blksL (headE f) cs ∧ fileP f (l.take k) = (B.take u, 0) ∧ ScanIs (B.take u) f cs [] ∧ (B.take u).length = u) := by
  have hg := chunks_good ha
  refine ⟨fun hph g hg => ?_, fun hph => ?_⟩
  · obtain ⟨hn, r, e⟩ := hg
    have e1 : headL f ++ blksL (headE f) (chunks 4 l) = headL g ++ (r ++ B.drop p) := by rw [← List.append_assoc, ← e, List.take_append_drop, hB]
    obtain ⟨rfl, _⟩ := head_same hf hn e1
    have := congrArg List.length e
    rw [List.length_take, List.length_append] at this
    omega
  · have hbl : B.length = h + (blksL (headE f) (chunks 4 l)).length := by rw [hB, List.length_append, hh]
    obtain ⟨j, r, hj, hbk⟩ := blks_cut (p := headE f) hg (p - h) (by omega)
    obtain ⟨h1, h2⟩ := chunks_take (k := 4) (by omega) l j hj
    have hcnt := chunks_count (k := 4) (by omega) l j hj
    have htp : B.take p = headL f ++ (blksL (headE f) (chunks 4 l)).take (p - h) := by
      rw [hB, List.take_append, List.take_of_length_le (by omega), hh]
    have hlt : l.take (min (j * 4) n) = l.take (j * 4) := by
      rcases Nat.le_total (j * 4) n with h3 | h3
      · rw [Nat.min_eq_left h3]
      · rw [Nat.min_eq_right h3, List.take_of_length_le (by omega), List.take_of_length_le (by omega)]
    have hsp : blksL (headE f) (chunks 4 l) = blksL (headE f) ((chunks 4 l).take j) ++ blksL (blksE (headE f) ((chunks 4 l).take j)) ((chunks 4 l).drop j) := by
      rw [← blksL_append, List.take_append_drop]
    have hu : B.take (headL f ++ blksL (headE f) ((chunks 4 l).take j)).length = headL f ++ blksL (headE f) ((chunks 4 l).take j) := by
      rw [hB, hsp, ← List.append_assoc, List.take_left]
    have hup : (headL f ++ blksL (headE f) ((chunks 4 l).take j)).length ≤ p := by
      have h3 := congrArg List.length hbk.2.1
      rw [List.length_append, List.length_take] at h3
      rw [List.length_append, hh]
      omega
    have hgj := hg.take j
    have hkn : n ≤ j * 4 ∨ j * 4 ≤ n := by omega
    have hjj : j * 4 ≤ l.length ∨ (chunks 4 l).take j = chunks 4 l := by
      rcases hcnt with h3 | h3
      · exact .inl h3
      · exact .inr (List.take_of_length_le (by omega))
    refine ⟨(chunks 4 l).take j, r, _, min (j * 4) n, ⟨hf, _, htp, hbk⟩, by rw [h1, hlt], by rw [List.length_take, hl]; omega, Nat.min_le_right _ _, ?_, rfl, hup, hu, ?_, ?_, by rw [hu]⟩
    · rcases Nat.le_total (j * 4) n with h3 | h3
      · left; rw [Nat.min_eq_left h3]; omega
      · right; exact Nat.min_eq_right h3
    · rw [hlt, hu, fileP_yes hf (allR_take ha _), h2]
    · rw [hu]
      exact file_scan hf hgj
theorem place_two {n : Nat} (hn : n ≤ 100000) (h : 0 < n) (a : Int) : ∃ (q : Int) (k : Nat), Int.tmod a (n : Int) = q ∧ wrap64 (q + (n : Int)) = q + (n : Int) ∧ Int.tmod (q + (n : Int)) (n : Int) = (k : Int) ∧ (q + (n : Int)) % (n : Int) = (k : Int) ∧ k < n := by
  have h0 : (0 : Int) < (n : Int) := by omega
  have h1 := Int.lt_tmod_of_pos a h0
  have h1' := Int.tmod_lt_of_pos a h0
  have h2 := Int.tmod_nonneg (n : Int) (show 0 ≤ Int.tmod a (n : Int) + (n : Int) by omega)
  have h3 := Int.tmod_lt_of_pos (Int.tmod a (n : Int) + (n : Int)) h0
  have h4 : Int.tmod (Int.tmod a (n : Int) + (n : Int)) (n : Int) = (Int.tmod a (n : Int) + (n : Int)) % (n : Int) := Int.tmod_eq_emod_of_nonneg (by omega)
  exact ⟨_, (Int.tmod (Int.tmod a (n : Int) + (n : Int)) (n : Int)).toNat, rfl, by unfold wrap64; omega, by omega, by omega, by omega⟩

set_option maxRecDepth 100000 in
set_option maxHeartbeats 8000000 in
theorem cut_law (first : Int) (A : Option Addr) (n c : Nat) (l : List EnP) (left : Int) (w : World) (hl : Es w w.heap.size A n l) (hnc : n ≤ c) :
    Calls Try.prog 5 #[.int .i64 first, .slice A n c, .int .i64 left] w fun e w' => e = .returned (.bool true) ∧ Below w.heap.size w w' := by
  obtain ⟨i0, hi, hz0, hz1, hz2⟩ := info_parts Ga.info_u8
  obtain ⟨j0, hj, hy0, hy1, hy2⟩ := info_partsV info_entry
  have B0 := Below.refl w.heap.size w
  have HL := Lib.hid (⟨hl.len, hl⟩ : _ ∧ _)
  by_cases hc0 : first < (1 : Int)
  · have t0 : decide (first < (1 : Int)) = true := by simp; omega
    go_enter Try.func5, Try.ntmps5
    go_wp2_with fail
    refine (wakes_true w).mono ?_
    rintro e w1 ⟨rfl, hb1⟩
    go_wp2_with fail
    go_ret
    exact ⟨rfl, hb1⟩
  have t0 : decide (first < (1 : Int)) = false := by simp; omega
  have t0n : (1 : Int) ≤ first := by omega
  clear hc0
  by_cases hc0 : (1073741824 : Int) < first
  · have t1 : decide ((1073741824 : Int) < first) = true := by simp; omega
    go_enter Try.func5, Try.ntmps5
    go_wp2_with fail
    refine (wakes_true w).mono ?_
    rintro e w1 ⟨rfl, hb1⟩
    go_wp2_with fail
    go_ret
    exact ⟨rfl, hb1⟩
  have t1 : decide ((1073741824 : Int) < first) = false := by simp; omega
  have t1n : first ≤ (1073741824 : Int) := by omega
  clear hc0
  by_cases hc0 : 20 < n
  · have t2 : decide ((20 : Int) < (n : Int)) = true := by simp; omega
    go_enter Try.func5, Try.ntmps5
    go_wp2_with fail
    refine (wakes_true w).mono ?_
    rintro e w1 ⟨rfl, hb1⟩
    go_wp2_with fail
    go_ret
    exact ⟨rfl, hb1⟩
  have t2 : decide ((20 : Int) < (n : Int)) = false := by simp; omega
  have t2n : n ≤ 20 := by omega
  clear hc0
  have hf : Num first := ⟨t0n, t1n⟩
  have Hf := Lib.hid hf
  clear hf
  go_enter Try.func5, Try.ntmps5
  have Hes := Lib.hid (⟨hl, hl.len⟩ : _ ∧ _)
  clear hl
  go_wp2_with fail
  go_loopw [7] (fun i wr => ∃ k : Nat, k ≤ n ∧ i = .int .i64 k ∧ allR ((l).take k) = true ∧ Below w.heap.size w wr) (fun i _ => (n) - (intOf i).toNat)
  case atStart => exact ⟨0, Nat.zero_le _, rfl, rfl, Below.refl _ _⟩
  obtain ⟨k, hk, rfl, hak, hB⟩ := hrel
  have HB := Lib.hid (⟨hB, hak⟩ : _ ∧ _)
  by_cases hlt : k < n
  · obtain ⟨b, off, e, hAe, hbl, he, c0, c1, c2⟩ := (Hes.out.1.on hB hB.size).at_ hlt
    subst hAe
    have HE := Lib.hid he
    clear hB hak he
    cases hre : rightB e
    · go_wp2_with fail
      refine (rright_any e _).mono ?_
      rintro r w1 ⟨rfl, hb1⟩
      rw [hre]
      have H1 := Lib.hid (B0.trans ((HB.out.1.trans (hb1.mono HB.out.1.size)).mono B0.size))
      clear hb1 c0 c1 c2 hre
      go_wp2_with fail
      refine (wakes_true w1).mono ?_
      rintro e w2 ⟨rfl, hb2⟩
      go_wp2_with fail
      go_ret
      exact ⟨rfl, H1.out.trans (hb2.mono H1.out.size)⟩
    · have Hr := Lib.hid hre
      go_wp2_with fail
      refine (rright_any e _).mono ?_
      rintro r w1 ⟨rfl, hb1⟩
      rw [hre]
      have H1 := Lib.hid (HB.out.1.trans (hb1.mono HB.out.1.size))
      clear hb1 c0 c1 c2 hre
      go_wp2_with fail
      go_roundw
      case rel => exact ⟨k + 1, by omega, by go_num, by rw [take_succ HE.out, allR_append, HB.out.2]; simp [allR, Hr.out], H1.out⟩
      case measure => simp [intOf]; omega
  obtain rfl : n = k := by omega
  have ha : allR (l) = true := by have h := HB.out.2; rwa [List.take_of_length_le (by rw [Hes.out.2]; exact Nat.le_refl _)] at h
  replace Hes := Hes.out.1
  have bb := HB.out.1
  clear hlt hk hak hB HB
  replace Hes := Hes.on bb bb.size
  have B1 := B0.trans (bb.mono B0.size)
  clear bb B0
  have HA := Lib.hid ha
  obtain ⟨B, hB⟩ : ∃ B, B = headL first ++ blksL (headE first) (chunks 4 l) := ⟨_, rfl⟩
  obtain ⟨q, hq⟩ : ∃ q, B.length = q := ⟨_, rfl⟩
  obtain ⟨h, hh⟩ : ∃ h, (headL first).length = h := ⟨_, rfl⟩
  have hh2 := head_length Hf.out
  rw [hh] at hh2
  have hqb : h ≤ q ∧ q ≤ 1000000 := by
    have h1 := blks_le (p := headE first) (chunks_good ha)
    have h2 := chunks_len4 l
    rw [HL.out.1] at h2
    rw [← hq, hB, List.length_append, hh]
    omega
  have hPB := file_byt Hf.out (chunks_good ha)
  rw [← hB] at hPB
  have hfile := fileP_yes Hf.out ha
  rw [← hB] at hfile
  obtain ⟨qq, p, hq0, hq1, hq2, hq3, hpq⟩ := place_two (n := q) (by have := hqb.2; have h1 := blks_le (p := headE first) (chunks_good ha); have h2 := chunks_len4 l; rw [HL.out.1] at h2; rw [← hq, hB, List.length_append, hh]; omega) (by omega) left
  have hcut := cut_bytes Hf.out ha HL.out.1 hh hB hq hpq
  have HP := Lib.hid (⟨hB, hq, hh, hPB, hfile, hcut⟩ : _ ∧ _ ∧ _ ∧ _ ∧ _ ∧ _)
  have hne : ((q : Int) == 0) = false := by simp; omega
  have hne' : ¬ ((q : Int) = 0) := by omega
  clear hB hq hh hPB hfile hcut ha t0 t1 t2
  go_wp2_with fail
  refine (file_any first A n c l wr Hes hnc (by omega)).mono ?_
  intro e w2 hh
  obtain ⟨A5, c5, rfl, hc5, r5, -, bb⟩ := hh.out HP.out.2.2.2.2.1 HP.out.2.1
  clear hh
  replace Hes := Hes.on bb bb.size
  have B2 := B1.trans (bb.mono B1.size)
  clear bb B1
  have hcutS := cut_firstE Try.underlying24 hi A5 q c5 p (by omega)
  by_cases hph : p < h
  · have hno := HP.out.2.2.2.2.2.1 hph
    have Hno := Lib.hid hno
    clear hno
    have tp : decide ((p : Int) < (h : Int)) = true := by simp; omega
    have tp' : (p : Int) < (h : Int) := by omega
    go_wp2_with fail
    refine (Scan_any A5 p c5 (B.take p) w2 (r5.first (m := p) (by omega)) (HP.out.2.2.2.1.take p) (by omega) (by omega)).mono ?_
    intro e w3 hh
    obtain ⟨rfl, bb⟩ := hh.no Hno.out
    clear hh
    replace Hes := Hes.on bb bb.size
    replace r5 := r5.on bb bb.size
    have B3 := B2.trans (bb.mono B2.size)
    clear bb B2
    clear hne hne' hq0 hq1 hq2 hcutS
    obtain ⟨w4, hw4⟩ : ∃ x, x = w3.alloc (.cells #[.int .i64 0, .slice none 0 0, .int .i64 0] 36) := ⟨_, rfl⟩
    obtain ⟨z9, hz9⟩ : ∃ x, x = w3.heap.size := ⟨_, rfl⟩
    have bb : Below w3.heap.size w3 w4 := by rw [hw4]; exact (Below.refl _ _).alloc (Nat.le_refl _) _
    have z9b : BoxC w4 z9 0 (.slice none 0 0) 0 := by rw [hw4, hz9]; exact BoxC.new _ _ _ _
    have sz9 : z9 + 1 = w4.heap.size := by rw [hw4, hz9]; simp
    go_wp2_with fail
    rw [← hw4, ← hz9]
    clear hw4 hz9
    replace Hes := Hes.on bb bb.size
    replace r5 := r5.on bb bb.size
    have B4 := B3.trans (bb.mono B3.size)
    clear bb B3
    refine (head_any first w4).mono ?_
    intro e w5 hh
    obtain ⟨A6, c6, rfl, hc6, r6, -, bb⟩ := hh.out (headP_yes Hf.out) HP.out.2.2.1
    clear hh
    replace Hes := Hes.on bb bb.size
    replace r5 := r5.on bb bb.size
    replace z9b := z9b.below bb
    have B5 := B4.trans (bb.mono B4.size)
    clear bb B4
    obtain ⟨d0, d1, d2⟩ := z9b.cells
    go_wp2_with fail
    refine (wakes_true w5).mono ?_
    rintro e wg ⟨rfl, bg⟩
    go_wp2_with fail
    go_ret
    exact ⟨rfl, B5.trans (bg.mono B5.size)⟩
  obtain ⟨cs, r, u, k, hs1, hfl, hlk, hkn, hk4, hu, hup, hBu, hfu, hs2, hlu⟩ := HP.out.2.2.2.2.2.2 hph
  have tp : decide ((p : Int) < (h : Int)) = false := by simp; omega
  have tp' : ¬ ((p : Int) < (h : Int)) := by omega
  have HS := Lib.hid (⟨hs1, hfl, hlk, hu, hBu, hfu, hs2, hlu⟩ : _ ∧ _ ∧ _ ∧ _ ∧ _ ∧ _ ∧ _ ∧ _)
  clear hs1 hfl hlk hu hBu hfu hs2 hlu
  go_wp2_with fail
  refine (Scan_any A5 p c5 (B.take p) w2 (r5.first (m := p) (by omega)) (HP.out.2.2.2.1.take p) (by omega) (by omega)).mono ?_
  intro e w3 hh
  obtain ⟨A8, c8, rfl, hc8, s8, bb⟩ := hh.yes HS.out.1 (q := k) (by rw [HS.out.2.1]; exact HS.out.2.2.1) HS.out.2.2.2.1
  clear hh
  replace Hes := Hes.on bb bb.size
  replace r5 := r5.on bb bb.size
  have B3 := B2.trans (bb.mono B2.size)
  clear bb B2
  rw [HS.out.2.1] at s8
  clear hne hne' hq0 hq1 hq2 hcutS
  obtain ⟨w4, hw4⟩ : ∃ x, x = w3.alloc (.cells #[.int .i64 first, .slice A8 k c8, .int .i64 (u : Int)] 36) := ⟨_, rfl⟩
  obtain ⟨z9, hz9⟩ : ∃ x, x = w3.heap.size := ⟨_, rfl⟩
  have bb : Below w3.heap.size w3 w4 := by rw [hw4]; exact (Below.refl _ _).alloc (Nat.le_refl _) _
  have z9b : BoxC w4 z9 first (.slice A8 k c8) (u : Int) := by rw [hw4, hz9]; exact BoxC.new _ _ _ _
  have sz9 : z9 + 1 = w4.heap.size := by rw [hw4, hz9]; simp
  go_wp2_with fail
  rw [← hw4, ← hz9]
  clear hw4 hz9
  replace Hes := Hes.on bb bb.size
  replace r5 := r5.on bb bb.size
  replace s8 := s8.on bb bb.size
  have B4 := B3.trans (bb.mono B3.size)
  clear bb B3
  refine (head_any first w4).mono ?_
  intro e w5 hh
  obtain ⟨A6, c6, rfl, hc6, r6, -, bb⟩ := hh.out (headP_yes Hf.out) HP.out.2.2.1
  clear hh
  replace Hes := Hes.on bb bb.size
  replace r5 := r5.on bb bb.size
  replace s8 := s8.on bb bb.size
  replace z9b := z9b.below bb
  have B5 := B4.trans (bb.mono B4.size)
  clear bb B4
  clear r6
  obtain ⟨d0, d1, d2⟩ := z9b.cells
  go_wp2_with fail
  have X0 := Lib.hid (show ∀ W, Below w5.heap.size w5 W → BoxC W z9 first (.slice A8 k c8) (u : Int) from fun W hW => z9b.below hW)
  have hcutE := cut_firstE Try.underlying23 hj A n c k (by omega)
  have hcutB := cut_firstE Try.underlying24 hi A5 q c5 u (by omega)
  have HX := Lib.hid (⟨s8, Row.first Hes hkn, r5, B5⟩ : _ ∧ _ ∧ _ ∧ _)
  have v1 : decide ((p : Int) < (u : Int)) = false := by simp; omega
  have v1' : ¬ ((p : Int) < (u : Int)) := by omega
  have v2 : decide ((u : Int) < 0) = false := by simp
  have v3 : decide ((n : Int) < (k : Int)) = false := by simp; omega
  have v3' : ¬ ((n : Int) < (k : Int)) := by omega
  have hk9 : k ≤ 1000000000 := by omega
  have hk6 : k ≤ 1000000 := by omega
  clear s8 Hes r5 B5 z9b d0 d1 d2 t2n
  by_cases hk40 : k % 4 = 0
  · have hmod : Int.tmod (k : Int) 4 = 0 := by rw [Int.tmod_eq_emod_of_nonneg (by omega)]; omega
    refine wp_region_held_drew (S := (fun W => Below w5.heap.size w5 W)) (by kernel_rfl) (below_dr (below_d0 _)) (fun hHeld => ?_)
    refine take_at (i := 0) (d := 99) (oi := ?o1) (v := ?v1) ?hi1 ?hd1 (by kernel_rfl) (by kernel_rfl) (by kernel_rfl) ?hw1 ?hy1 ?hq1 (by assumption) ?r1
    case hi1 => (simp only [List.getElem?_toArray, List.getElem?_cons_zero]; rfl)
    case hd1 => rfl
    case hw1 => rfl
    case hy1 => ((intro w hSw; (try dsimp only at hSw); go_simp) <;> (with_reducible rfl))
    case hq1 => exact fun _ _ _ h => h
    simp only [List.set_cons_succ, List.set_cons_zero]
    refine take_at (i := 1) (d := 100) (oi := ?o2) (v := ?v2) ?hi2 ?hd2 (by kernel_rfl) (by kernel_rfl) (by kernel_rfl) ?hw2 ?hy2 ?hq2 (by assumption) ?r2
    case hi2 => (simp only [List.getElem?_toArray, List.getElem?_cons_succ, List.getElem?_cons_zero]; rfl)
    case hd2 => rfl
    case hw2 => rfl
    case hy2 => ((intro w hSw; (try dsimp only at hSw); go_simp) <;> (with_reducible rfl))
    case hq2 => exact fun _ _ _ h => h
    simp only [List.set_cons_succ, List.set_cons_zero]
    refine take_at (i := 2) (d := 101) (oi := ?o3) (v := ?v3) ?hi3 ?hd3 (by kernel_rfl) (by kernel_rfl) (by kernel_rfl) ?hw3 ?hy3 ?hq3 (by assumption) ?r3
    case hi3 => (simp only [List.getElem?_toArray, List.getElem?_cons_succ, List.getElem?_cons_zero]; rfl)
    case hd3 => rfl
    case hw3 => rfl
    case hy3 => ((intro w hSw; (try dsimp only at hSw); go_simp) <;> (with_reducible rfl))
    case hq3 => exact fun _ _ _ h => h
    simp only [List.set_cons_succ, List.set_cons_zero]
    refine take_at (i := 3) (d := 102) (oi := ?o4) (v := ?v4) ?hi4 ?hd4 (by kernel_rfl) (by kernel_rfl) (by kernel_rfl) ?hw4 ?hy4 ?hq4 (by assumption) ?r4
    case hi4 => (simp only [List.getElem?_toArray, List.getElem?_cons_succ, List.getElem?_cons_zero]; rfl)
    case hd4 => rfl
    case hw4 => rfl
    case hy4 => ((intro w hSw; (try dsimp only at hSw); go_simp) <;> (with_reducible rfl))
    case hq4 => exact fun _ _ _ h => h
    simp only [List.set_cons_succ, List.set_cons_zero]
    refine take_at (i := 4) (d := 103) (oi := ?o5) (v := ?v5) ?hi5 ?hd5 (by kernel_rfl) (by kernel_rfl) (by kernel_rfl) ?hw5 ?hy5 ?hq5 (by assumption) ?r5
    case hi5 => (simp only [List.getElem?_toArray, List.getElem?_cons_succ, List.getElem?_cons_zero]; rfl)
    case hd5 => rfl
    case hw5 => rfl
    case hy5 => ((intro w hSw; (try dsimp only at hSw); obtain ⟨k0, k1, k2⟩ := (X0.out _ hSw).cells; go_simp) <;> (with_reducible rfl))
    case hq5 => exact fun _ _ _ h => h
    simp only [List.set_cons_succ, List.set_cons_zero]
    refine take_at (i := 5) (d := 104) (oi := ?o6) (v := ?v6) ?hi6 ?hd6 (by kernel_rfl) (by kernel_rfl) (by kernel_rfl) ?hw6 ?hy6 ?hq6 (by assumption) ?r6
    case hi6 => (simp only [List.getElem?_toArray, List.getElem?_cons_succ, List.getElem?_cons_zero]; rfl)
    case hd6 => rfl
    case hw6 => rfl
    case hy6 => ((intro w hSw; (try dsimp only at hSw); go_simp) <;> (with_reducible rfl))
    case hq6 => exact fun _ _ _ h => h
    simp only [List.set_cons_succ, List.set_cons_zero]
    refine take_at (i := 6) (d := 105) (oi := ?o7) (v := ?v7) ?hi7 ?hd7 (by kernel_rfl) (by kernel_rfl) (by kernel_rfl) ?hw7 ?hy7 ?hq7 (by assumption) ?r7
    case hi7 => (simp only [List.getElem?_toArray, List.getElem?_cons_succ, List.getElem?_cons_zero]; rfl)
    case hd7 => rfl
    case hw7 => rfl
    case hy7 => ((intro w hSw; (try dsimp only at hSw); go_simp) <;> (with_reducible rfl))
    case hq7 => exact fun _ _ _ h => h
    simp only [List.set_cons_succ, List.set_cons_zero]
    refine take_at (i := 7) (d := 106) (oi := ?o8) (v := ?v8) ?hi8 ?hd8 (by kernel_rfl) (by kernel_rfl) (by kernel_rfl) ?hw8 ?hy8 ?hq8 (by assumption) ?r8
    case hi8 => (simp only [List.getElem?_toArray, List.getElem?_cons_succ, List.getElem?_cons_zero]; rfl)
    case hd8 => rfl
    case hw8 => rfl
    case hy8 => ((intro w hSw; (try dsimp only at hSw); go_simp) <;> (with_reducible rfl))
    case hq8 => exact fun _ _ _ h => h
    simp only [List.set_cons_succ, List.set_cons_zero]
    refine take_at (i := 8) (d := 107) (oi := ?o9) (v := ?v9) ?hi9 ?hd9 (by kernel_rfl) (by kernel_rfl) (by kernel_rfl) ?hw9 ?hy9 ?hq9 (by assumption) ?r9
    case hi9 => (simp only [List.getElem?_toArray, List.getElem?_cons_succ, List.getElem?_cons_zero]; rfl)
    case hd9 => rfl
    case hw9 => rfl
    case hy9 => ((intro w hSw; (try dsimp only at hSw); go_simp) <;> (with_reducible rfl))
    case hq9 => exact fun _ _ _ h => h
    simp only [List.set_cons_succ, List.set_cons_zero]
    refine take_at (i := 9) (d := 108) (oi := ?o10) (v := ?v10) ?hi10 ?hd10 (by kernel_rfl) (by kernel_rfl) (by kernel_rfl) ?hw10 ?hy10 ?hq10 (by assumption) ?r10
    case hi10 => (simp only [List.getElem?_toArray, List.getElem?_cons_succ, List.getElem?_cons_zero]; rfl)
    case hd10 => rfl
    case hw10 => rfl
    case hy10 => ((intro w hSw; (try dsimp only at hSw); go_simp) <;> (with_reducible rfl))
    case hq10 => exact fun _ _ _ h => h
    simp only [List.set_cons_succ, List.set_cons_zero]
    refine take_at (i := 10) (d := 109) (oi := ?o11) (v := ?v11) ?hi11 ?hd11 (by kernel_rfl) (by kernel_rfl) (by kernel_rfl) ?hw11 ?hy11 ?hq11 (by assumption) ?r11
    case hi11 => (simp only [List.getElem?_toArray, List.getElem?_cons_succ, List.getElem?_cons_zero]; rfl)
    case hd11 => rfl
    case hw11 => rfl
    case hy11 => ((intro w hSw; (try dsimp only at hSw); obtain ⟨k0, k1, k2⟩ := (X0.out _ hSw).cells; go_simp) <;> (with_reducible rfl))
    case hq11 => exact fun _ _ _ h => h
    simp only [List.set_cons_succ, List.set_cons_zero]
    refine take_at (i := 11) (d := 110) (oi := ?o12) (v := ?v12) ?hi12 ?hd12 (by kernel_rfl) (by kernel_rfl) (by kernel_rfl) ?hw12 ?hy12 ?hq12 (by assumption) ?r12
    case hi12 => (simp only [List.getElem?_toArray, List.getElem?_cons_succ, List.getElem?_cons_zero]; rfl)
    case hd12 => rfl
    case hw12 => rfl
    case hy12 => ((intro w hSw; (try dsimp only at hSw); go_simp) <;> (with_reducible rfl))
    case hq12 => exact fun _ _ _ h => h
    simp only [List.set_cons_succ, List.set_cons_zero]
    refine take_at (i := 12) (d := 111) (oi := ?o13) (v := ?v13) ?hi13 ?hd13 (by kernel_rfl) (by kernel_rfl) (by kernel_rfl) ?hw13 ?hy13 ?hq13 (by assumption) ?r13
    case hi13 => (simp only [List.getElem?_toArray, List.getElem?_cons_succ, List.getElem?_cons_zero]; rfl)
    case hd13 => rfl
    case hw13 => rfl
    case hy13 => ((intro w hSw; (try dsimp only at hSw); go_simp) <;> (with_reducible rfl))
    case hq13 => exact fun _ _ _ h => h
    simp only [List.set_cons_succ, List.set_cons_zero]
    refine take_at (i := 13) (d := 112) (oi := ?o14) (v := ?v14) ?hi14 ?hd14 (by kernel_rfl) (by kernel_rfl) (by kernel_rfl) ?hw14 ?hy14 ?hq14 (by assumption) ?r14
    case hi14 => (simp only [List.getElem?_toArray, List.getElem?_cons_succ, List.getElem?_cons_zero]; rfl)
    case hd14 => rfl
    case hw14 => rfl
    case hy14 => ((intro w hSw; (try dsimp only at hSw); go_simp) <;> (with_reducible rfl))
    case hq14 => exact fun _ _ _ h => h
    simp only [List.set_cons_succ, List.set_cons_zero]
    refine take_at (i := 14) (d := 113) (oi := ?o15) (v := ?v15) ?hi15 ?hd15 (by kernel_rfl) (by kernel_rfl) (by kernel_rfl) ?hw15 ?hy15 ?hq15 (by assumption) ?r15
    case hi15 => (simp only [List.getElem?_toArray, List.getElem?_cons_succ, List.getElem?_cons_zero]; rfl)
    case hd15 => rfl
    case hw15 => rfl
    case hy15 => ((intro w hSw; (try dsimp only at hSw); go_simp) <;> (with_reducible rfl))
    case hq15 => exact fun _ _ _ h => h
    simp only [List.set_cons_succ, List.set_cons_zero]
    refine take_at (i := 15) (d := 114) (oi := ?o16) (v := ?v16) ?hi16 ?hd16 (by kernel_rfl) (by kernel_rfl) (by kernel_rfl) ?hw16 ?hy16 ?hq16 (by assumption) ?r16
    case hi16 => (simp only [List.getElem?_toArray, List.getElem?_cons_succ, List.getElem?_cons_zero]; rfl)
    case hd16 => rfl
    case hw16 => rfl
    case hy16 => ((intro w hSw; (try dsimp only at hSw); go_simp) <;> (with_reducible rfl))
    case hq16 => exact fun _ _ _ h => h
    simp only [List.set_cons_succ, List.set_cons_zero]
    refine take_at (i := 16) (d := 115) (oi := ?o17) (v := ?v17) ?hi17 ?hd17 (by kernel_rfl) (by kernel_rfl) (by kernel_rfl) ?hw17 ?hy17 ?hq17 (by assumption) ?r17
    case hi17 => (simp only [List.getElem?_toArray, List.getElem?_cons_succ, List.getElem?_cons_zero]; rfl)
    case hd17 => rfl
    case hw17 => rfl
    case hy17 => ((intro w hSw; (try dsimp only at hSw); obtain ⟨k0, k1, k2⟩ := (X0.out _ hSw).cells; go_simp) <;> (with_reducible rfl))
    case hq17 => exact fun _ _ _ h => h
    simp only [List.set_cons_succ, List.set_cons_zero]
    refine take_at (i := 17) (d := 116) (oi := ?o18) (v := ?v18) ?hi18 ?hd18 (by kernel_rfl) (by kernel_rfl) (by kernel_rfl) ?hw18 ?hy18 ?hq18 (by assumption) ?r18
    case hi18 => (simp only [List.getElem?_toArray, List.getElem?_cons_succ, List.getElem?_cons_zero]; rfl)
    case hd18 => rfl
    case hw18 => rfl
    case hy18 => ((intro w hSw; (try dsimp only at hSw); go_simp) <;> (with_reducible rfl))
    case hq18 => exact fun _ _ _ h => h
    simp only [List.set_cons_succ, List.set_cons_zero]
    refine take_at (i := 18) (d := 117) (oi := ?o19) (v := ?v19) ?hi19 ?hd19 (by kernel_rfl) (by kernel_rfl) (by kernel_rfl) ?hw19 ?hy19 ?hq19 (by assumption) ?r19
    case hi19 => (simp only [List.getElem?_toArray, List.getElem?_cons_succ, List.getElem?_cons_zero]; rfl)
    case hd19 => rfl
    case hw19 => rfl
    case hy19 => ((intro w hSw; (try dsimp only at hSw); go_simp) <;> (with_reducible rfl))
    case hq19 => exact fun _ _ _ h => h
    simp only [List.set_cons_succ, List.set_cons_zero]
    refine take_at (i := 19) (d := 118) (oi := ?o20) (v := ?v20) ?hi20 ?hd20 (by kernel_rfl) (by kernel_rfl) (by kernel_rfl) ?hw20 ?hy20 ?hq20 (by assumption) ?r20
    case hi20 => (simp only [List.getElem?_toArray, List.getElem?_cons_succ, List.getElem?_cons_zero]; rfl)
    case hd20 => rfl
    case hw20 => rfl
    case hy20 => ((intro w hSw; (try dsimp only at hSw); go_simp) <;> (with_reducible rfl))
    case hq20 => exact fun _ _ _ h => h
    simp only [List.set_cons_succ, List.set_cons_zero]
    refine take_at (i := 20) (d := 119) (oi := ?o21) (v := ?v21) ?hi21 ?hd21 (by kernel_rfl) (by kernel_rfl) (by kernel_rfl) ?hw21 ?hy21 ?hq21 (by assumption) ?r21
    case hi21 => (simp only [List.getElem?_toArray, List.getElem?_cons_succ, List.getElem?_cons_zero]; rfl)
    case hd21 => rfl
    case hw21 => rfl
    case hy21 => ((intro w hSw; (try dsimp only at hSw); go_simp) <;> (with_reducible rfl))
    case hq21 => exact fun _ _ _ h => h
    simp only [List.set_cons_succ, List.set_cons_zero]
    refine take_at (i := 21) (d := 120) (oi := ?o22) (v := ?v22) ?hi22 ?hd22 (by kernel_rfl) (by kernel_rfl) (by kernel_rfl) ?hw22 ?hy22 ?hq22 (by assumption) ?r22
    case hi22 => (simp only [List.getElem?_toArray, List.getElem?_cons_succ, List.getElem?_cons_zero]; rfl)
    case hd22 => rfl
    case hw22 => rfl
    case hy22 => ((intro w hSw; (try dsimp only at hSw); go_simp) <;> (with_reducible rfl))
    case hq22 => exact fun _ _ _ h => h
    simp only [List.set_cons_succ, List.set_cons_zero]
    refine take_at (i := 22) (d := 121) (oi := ?o23) (v := ?v23) ?hi23 ?hd23 (by kernel_rfl) (by kernel_rfl) (by kernel_rfl) ?hw23 ?hy23 ?hq23 (by assumption) ?r23
    case hi23 => (simp only [List.getElem?_toArray, List.getElem?_cons_succ, List.getElem?_cons_zero]; rfl)
    case hd23 => rfl
    case hw23 => rfl
    case hy23 => ((intro w hSw; (try dsimp only at hSw); go_simp) <;> (with_reducible rfl))
    case hq23 => exact fun _ _ _ h => h
    simp only [List.set_cons_succ, List.set_cons_zero]
    refine take_at (i := 23) (d := 122) (oi := ?o24) (v := ?v24) ?hi24 ?hd24 (by kernel_rfl) (by kernel_rfl) (by kernel_rfl) ?hw24 ?hy24 ?hq24 (by assumption) ?r24
    case hi24 => (simp only [List.getElem?_toArray, List.getElem?_cons_succ, List.getElem?_cons_zero]; rfl)
    case hd24 => rfl
    case hw24 => rfl
    case hy24 => ((intro w hSw; (try dsimp only at hSw); go_simp) <;> (with_reducible rfl))
    case hq24 => exact fun _ _ _ h => h
    simp only [List.set_cons_succ, List.set_cons_zero]
    refine take_at (i := 24) (d := 123) (oi := ?o25) (v := ?v25) ?hi25 ?hd25 (by kernel_rfl) (by kernel_rfl) (by kernel_rfl) ?hw25 ?hy25 ?hq25 (by assumption) ?r25
    case hi25 => (simp only [List.getElem?_toArray, List.getElem?_cons_succ, List.getElem?_cons_zero]; rfl)
    case hd25 => rfl
    case hw25 => rfl
    case hy25 => ((intro w hSw; (try dsimp only at hSw); go_simp) <;> (with_reducible rfl))
    case hq25 => exact fun _ _ _ h => h
    simp only [List.set_cons_succ, List.set_cons_zero]
    refine take_at (i := 25) (d := 124) (oi := ?o26) (v := ?v26) ?hi26 ?hd26 (by kernel_rfl) (by kernel_rfl) (by kernel_rfl) ?hw26 ?hy26 ?hq26 (by assumption) ?r26
    case hi26 => (simp only [List.getElem?_toArray, List.getElem?_cons_succ, List.getElem?_cons_zero]; rfl)
    case hd26 => rfl
    case hw26 => rfl
    case hy26 => ((intro w hSw; (try dsimp only at hSw); go_simp) <;> (with_reducible rfl))
    case hq26 => exact fun _ _ _ h => h
    simp only [List.set_cons_succ, List.set_cons_zero]
    refine take_at (i := 26) (d := 125) (oi := ?o27) (v := ?v27) ?hi27 ?hd27 (by kernel_rfl) (by kernel_rfl) (by kernel_rfl) ?hw27 ?hy27 ?hq27 (by assumption) ?r27
    case hi27 => (simp only [List.getElem?_toArray, List.getElem?_cons_succ, List.getElem?_cons_zero]; rfl)
    case hd27 => rfl
    case hw27 => rfl
    case hy27 => ((intro w hSw; (try dsimp only at hSw); go_simp) <;> (with_reducible rfl))
    case hq27 => exact fun _ _ _ h => h
    simp only [List.set_cons_succ, List.set_cons_zero]
    refine take_at (i := 27) (d := 126) (oi := ?o28) (v := ?v28) ?hi28 ?hd28 (by kernel_rfl) (by kernel_rfl) (by kernel_rfl) ?hw28 ?hy28 ?hq28 (by assumption) ?r28
    case hi28 => (simp only [List.getElem?_toArray, List.getElem?_cons_succ, List.getElem?_cons_zero]; rfl)
    case hd28 => rfl
    case hw28 => rfl
    case hy28 => ((intro w hSw; (try dsimp only at hSw); obtain ⟨k0, k1, k2⟩ := (X0.out _ hSw).cells; go_simp) <;> (with_reducible rfl))
    case hq28 => exact fun _ _ _ h => h
    simp only [List.set_cons_succ, List.set_cons_zero]
    refine take_at (i := 28) (d := 127) (oi := ?o29) (v := ?v29) ?hi29 ?hd29 (by kernel_rfl) (by kernel_rfl) (by kernel_rfl) ?hw29 ?hy29 ?hq29 (by assumption) ?r29
    case hi29 => (simp only [List.getElem?_toArray, List.getElem?_cons_succ, List.getElem?_cons_zero]; rfl)
    case hd29 => rfl
    case hw29 => rfl
    case hy29 => ((intro w hSw; (try dsimp only at hSw); go_simp) <;> (with_reducible rfl))
    case hq29 => exact fun _ _ _ h => h
    simp only [List.set_cons_succ, List.set_cons_zero]
    refine take_at (i := 29) (d := 128) (oi := ?o30) (v := ?v30) ?hi30 ?hd30 (by kernel_rfl) (by kernel_rfl) (by kernel_rfl) ?hw30 ?hy30 ?hq30 (by assumption) ?r30
    case hi30 => (simp only [List.getElem?_toArray, List.getElem?_cons_succ, List.getElem?_cons_zero]; rfl)
    case hd30 => rfl
    case hw30 => rfl
    case hy30 => ((intro w hSw; (try dsimp only at hSw); go_simp) <;> (with_reducible rfl))
    case hq30 => exact fun _ _ _ h => h
    simp only [List.set_cons_succ, List.set_cons_zero]
    refine take_at (i := 30) (d := 129) (oi := ?o31) (v := ?v31) ?hi31 ?hd31 (by kernel_rfl) (by kernel_rfl) (by kernel_rfl) ?hw31 ?hy31 ?hq31 (by assumption) ?r31
    case hi31 => (simp only [List.getElem?_toArray, List.getElem?_cons_succ, List.getElem?_cons_zero]; rfl)
    case hd31 => rfl
    case hw31 => rfl
    case hy31 => ((intro w hSw; (try dsimp only at hSw); go_simp) <;> (with_reducible rfl))
    case hq31 => exact fun _ _ _ h => h
    simp only [List.set_cons_succ, List.set_cons_zero]
    refine call_at (i := 31) (d := 130) (oi := ?o32) (f := ?f32) (args := ?a32) ?hi32 ?hd32 (by kernel_rfl) ?hw32 ?he32 ?hc32
    case hi32 => (simp only [List.getElem?_toArray, List.getElem?_cons_succ, List.getElem?_cons_zero]; rfl)
    case hd32 => rfl
    case hw32 => rfl
    case he32 => (go_simp; constructor <;> with_reducible rfl)
    have em := ents_any A8 A k k c8 c (l.take k) (l.take k) _ (HX.out.1.on hHeld hHeld.size) (Row.on HX.out.2.1 hHeld hHeld.size) hk9 hk9
    rw [eqE_true rfl] at em
    refine em.mono ?_
    rintro r wv ⟨rfl, hb1⟩
    have kb : Below w5.heap.size w5 wv := hHeld.trans (hb1.mono hHeld.size)
    clear em
    refine ⟨_, rfl, kb, fun hHeld => ?_⟩
    simp only [List.set_cons_succ, List.set_cons_zero]
    refine take_at (i := 32) (d := 131) (oi := ?o33) (v := ?v33) ?hi33 ?hd33 (by kernel_rfl) (by kernel_rfl) (by kernel_rfl) ?hw33 ?hy33 ?hq33 (by assumption) ?r33
    case hi33 => (simp only [List.getElem?_toArray, List.getElem?_cons_succ, List.getElem?_cons_zero]; rfl)
    case hd33 => rfl
    case hw33 => rfl
    case hy33 => ((intro w hSw; (try dsimp only at hSw); go_simp) <;> (with_reducible rfl))
    case hq33 => exact fun _ _ _ h => h
    simp only [List.set_cons_succ, List.set_cons_zero]
    refine take_at (i := 33) (d := 132) (oi := ?o34) (v := ?v34) ?hi34 ?hd34 (by kernel_rfl) (by kernel_rfl) (by kernel_rfl) ?hw34 ?hy34 ?hq34 (by assumption) ?r34
    case hi34 => (simp only [List.getElem?_toArray, List.getElem?_cons_succ, List.getElem?_cons_zero]; rfl)
    case hd34 => rfl
    case hw34 => rfl
    case hy34 => ((intro w hSw; (try dsimp only at hSw); go_simp) <;> (with_reducible rfl))
    case hq34 => exact fun _ _ _ h => h
    simp only [List.set_cons_succ, List.set_cons_zero]
    refine take_at (i := 34) (d := 133) (oi := ?o35) (v := ?v35) ?hi35 ?hd35 (by kernel_rfl) (by kernel_rfl) (by kernel_rfl) ?hw35 ?hy35 ?hq35 (by assumption) ?r35
    case hi35 => (simp only [List.getElem?_toArray, List.getElem?_cons_succ, List.getElem?_cons_zero]; rfl)
    case hd35 => rfl
    case hw35 => rfl
    case hy35 => ((intro w hSw; (try dsimp only at hSw); go_simp) <;> (with_reducible rfl))
    case hq35 => exact fun _ _ _ h => h
    simp only [List.set_cons_succ, List.set_cons_zero]
    refine take_at (i := 35) (d := 134) (oi := ?o36) (v := ?v36) ?hi36 ?hd36 (by kernel_rfl) (by kernel_rfl) (by kernel_rfl) ?hw36 ?hy36 ?hq36 (by assumption) ?r36
    case hi36 => (simp only [List.getElem?_toArray, List.getElem?_cons_succ, List.getElem?_cons_zero]; rfl)
    case hd36 => rfl
    case hw36 => rfl
    case hy36 => ((intro w hSw; (try dsimp only at hSw); go_simp) <;> (with_reducible rfl))
    case hq36 => exact fun _ _ _ h => h
    simp only [List.set_cons_succ, List.set_cons_zero]
    refine take_at (i := 36) (d := 135) (oi := ?o37) (v := ?v37) ?hi37 ?hd37 (by kernel_rfl) (by kernel_rfl) (by kernel_rfl) ?hw37 ?hy37 ?hq37 (by assumption) ?r37
    case hi37 => (simp only [List.getElem?_toArray, List.getElem?_cons_succ, List.getElem?_cons_zero]; rfl)
    case hd37 => rfl
    case hw37 => rfl
    case hy37 => ((intro w hSw; (try dsimp only at hSw); go_simp) <;> (with_reducible rfl))
    case hq37 => exact fun _ _ _ h => h
    simp only [List.set_cons_succ, List.set_cons_zero]
    refine take_at (i := 37) (d := 136) (oi := ?o38) (v := ?v38) ?hi38 ?hd38 (by kernel_rfl) (by kernel_rfl) (by kernel_rfl) ?hw38 ?hy38 ?hq38 (by assumption) ?r38
    case hi38 => (simp only [List.getElem?_toArray, List.getElem?_cons_succ, List.getElem?_cons_zero]; rfl)
    case hd38 => rfl
    case hw38 => rfl
    case hy38 => ((intro w hSw; (try dsimp only at hSw); go_simp) <;> (with_reducible rfl))
    case hq38 => exact fun _ _ _ h => h
    simp only [List.set_cons_succ, List.set_cons_zero]
    refine take_at (i := 38) (d := 137) (oi := ?o39) (v := ?v39) ?hi39 ?hd39 (by kernel_rfl) (by kernel_rfl) (by kernel_rfl) ?hw39 ?hy39 ?hq39 (by assumption) ?r39
    case hi39 => (simp only [List.getElem?_toArray, List.getElem?_cons_succ, List.getElem?_cons_zero]; rfl)
    case hd39 => rfl
    case hw39 => rfl
    case hy39 => ((intro w hSw; (try dsimp only at hSw); go_simp) <;> (with_reducible rfl))
    case hq39 => exact fun _ _ _ h => h
    simp only [List.set_cons_succ, List.set_cons_zero]
    refine skip_at (i := 39) (d := 138) (oi := ?o40) ?hi40 ?hd40 (by kernel_rfl) (by kernel_rfl) (by kernel_rfl) ?hw40 ?hq40 (by assumption) ?r40
    case hi40 => (simp only [List.getElem?_toArray, List.getElem?_cons_succ, List.getElem?_cons_zero]; rfl)
    case hd40 => rfl
    case hw40 => rfl
    case hq40 => exact fun _ _ _ h => h
    simp only [List.set_cons_succ, List.set_cons_zero]
    refine skip_at (i := 40) (d := 139) (oi := ?o41) ?hi41 ?hd41 (by kernel_rfl) (by kernel_rfl) (by kernel_rfl) ?hw41 ?hq41 (by assumption) ?r41
    case hi41 => (simp only [List.getElem?_toArray, List.getElem?_cons_succ, List.getElem?_cons_zero]; rfl)
    case hd41 => rfl
    case hw41 => rfl
    case hq41 => exact fun _ _ _ h => h
    simp only [List.set_cons_succ, List.set_cons_zero]
    refine skip_at (i := 41) (d := 140) (oi := ?o42) ?hi42 ?hd42 (by kernel_rfl) (by kernel_rfl) (by kernel_rfl) ?hw42 ?hq42 (by assumption) ?r42
    case hi42 => (simp only [List.getElem?_toArray, List.getElem?_cons_succ, List.getElem?_cons_zero]; rfl)
    case hd42 => rfl
    case hw42 => rfl
    case hq42 => exact fun _ _ _ h => h
    simp only [List.set_cons_succ, List.set_cons_zero]
    refine skip_at (i := 42) (d := 141) (oi := ?o43) ?hi43 ?hd43 (by kernel_rfl) (by kernel_rfl) (by kernel_rfl) ?hw43 ?hq43 (by assumption) ?r43
    case hi43 => (simp only [List.getElem?_toArray, List.getElem?_cons_succ, List.getElem?_cons_zero]; rfl)
    case hd43 => rfl
    case hw43 => rfl
    case hq43 => exact fun _ _ _ h => h
    simp only [List.set_cons_succ, List.set_cons_zero]
    refine take_at (i := 43) (d := 142) (oi := ?o44) (v := ?v44) ?hi44 ?hd44 (by kernel_rfl) (by kernel_rfl) (by kernel_rfl) ?hw44 ?hy44 ?hq44 (by assumption) ?r44
    case hi44 => (simp only [List.getElem?_toArray, List.getElem?_cons_succ, List.getElem?_cons_zero]; rfl)
    case hd44 => rfl
    case hw44 => rfl
    case hy44 => ((intro w hSw; (try dsimp only at hSw); go_simp) <;> (with_reducible rfl))
    case hq44 => exact fun _ _ _ h => h
    simp only [List.set_cons_succ, List.set_cons_zero]
    refine take_at (i := 44) (d := 143) (oi := ?o45) (v := ?v45) ?hi45 ?hd45 (by kernel_rfl) (by kernel_rfl) (by kernel_rfl) ?hw45 ?hy45 ?hq45 (by assumption) ?r45
    case hi45 => (simp only [List.getElem?_toArray, List.getElem?_cons_succ, List.getElem?_cons_zero]; rfl)
    case hd45 => rfl
    case hw45 => rfl
    case hy45 => ((intro w hSw; (try dsimp only at hSw); go_simp) <;> (with_reducible rfl))
    case hq45 => exact fun _ _ _ h => h
    simp only [List.set_cons_succ, List.set_cons_zero]
    refine wpAnyH_done (by kernel_rfl) ?_ _
    clear v1 v1' v2 v3 v3'
    have hc9 := hHeld
    have Hd := Lib.hid (⟨X0.out _ hc9, HX.out.2.2.1.on hc9 hc9.size, HX.out.1.on hc9 hc9.size, HX.out.2.2.2.trans (hc9.mono HX.out.2.2.2.size)⟩ : _ ∧ _ ∧ _ ∧ _)
    obtain ⟨d0, d1, d2⟩ := Hd.out.1.cells
    clear hHeld hc9
    go_wp2_with fail
    have zb := Hd.out.1
    have r5 := Hd.out.2.1
    have s8 := Hd.out.2.2.1
    have B20 := Hd.out.2.2.2
    clear d0 d1 d2
    refine (Scan_any A5 u c5 (B.take u) wv (r5.first (m := u) (by omega)) (HP.out.2.2.2.1.take u) (by omega) (by omega)).mono ?_
    intro e w21 hh
    obtain ⟨A9, c9, rfl, hc9, s9, bb⟩ := hh.yes HS.out.2.2.2.2.2.2.1 (q := k) (by rw [HS.out.2.1]; exact HS.out.2.2.1) HS.out.2.2.2.1
    clear hh
    replace zb := zb.below bb
    replace r5 := r5.on bb bb.size
    replace s8 := s8.on bb bb.size
    have B21 := B20.trans (bb.mono B20.size)
    clear bb B20
    rw [HS.out.2.1] at s9
    obtain ⟨w22, hw22⟩ : ∃ x, x = w21.alloc (.cells #[.int .i64 first, .slice A9 k c9, .int .i64 (u : Int)] 36) := ⟨_, rfl⟩
    obtain ⟨z10, hz10⟩ : ∃ x, x = w21.heap.size := ⟨_, rfl⟩
    have bb : Below w21.heap.size w21 w22 := by rw [hw22]; exact (Below.refl _ _).alloc (Nat.le_refl _) _
    have z10b : BoxC w22 z10 first (.slice A9 k c9) (u : Int) := by rw [hw22, hz10]; exact BoxC.new _ _ _ _
    have sz10 : z10 + 1 = w22.heap.size := by rw [hw22, hz10]; simp
    go_wp2_with fail
    rw [← hw22, ← hz10]
    clear hw22 hz10
    replace zb := zb.below bb
    replace r5 := r5.on bb bb.size
    replace s8 := s8.on bb bb.size
    replace s9 := s9.on bb bb.size
    have B22 := B21.trans (bb.mono B21.size)
    clear bb B21
    refine (file_any first A k c (l.take k) w22 ((Row.first HL.out.2 hkn).on B22 B22.size) (by omega) (by omega)).mono ?_
    intro e w23 hh
    obtain ⟨A10, c10, rfl, hc10, r10, -, bb⟩ := hh.out HS.out.2.2.2.2.2.1 HS.out.2.2.2.2.2.2.2
    clear hh
    replace zb := zb.below bb
    replace r5 := r5.on bb bb.size
    replace s8 := s8.on bb bb.size
    replace s9 := s9.on bb bb.size
    replace z10b := z10b.below bb
    have B23 := B22.trans (bb.mono B22.size)
    clear bb B22
    obtain ⟨d0, d1, d2⟩ := zb.cells
    obtain ⟨k0, k1, k2⟩ := z10b.cells
    go_wp2_with fail
    have em := ents_any A8 A9 k k c8 c9 (l.take k) (l.take k) w23 s8 s9 hk9 hk9
    rw [eqE_true rfl] at em
    refine em.mono ?_
    rintro e w24 ⟨rfl, bb⟩
    clear em d0 d1 d2 k0 k1 k2
    replace zb := zb.below bb
    replace r5 := r5.on bb bb.size
    replace s8 := s8.on bb bb.size
    replace s9 := s9.on bb bb.size
    replace z10b := z10b.below bb
    replace r10 := r10.on bb bb.size
    have B24 := B23.trans (bb.mono B23.size)
    clear bb B23
    obtain ⟨d0, d1, d2⟩ := zb.cells
    go_wp2_with fail
    have sm := same_any A10 A5 u u c10 c5 (B.take u) (B.take u) w24 r10 (r5.first (m := u) (by omega)) (HP.out.2.2.2.1.take u) (HP.out.2.2.2.1.take u)
    rw [show eqB (B.take u) (B.take u) = true from decide_eq_true rfl] at sm
    refine sm.mono ?_
    rintro e wf ⟨rfl, rfl⟩
    clear sm d0 d1 d2
    go_wp2_with fail
    refine (wakes_true w24).mono ?_
    rintro e wg ⟨rfl, bg⟩
    go_wp2_with fail
    go_ret
    exact ⟨rfl, B24.trans (bg.mono B24.size)⟩
  · obtain rfl : k = n := hk4.resolve_left hk40
    obtain ⟨r4, hr4⟩ : ∃ r4 : Nat, r4 = k % 4 := ⟨_, rfl⟩
    have hmod : Int.tmod (k : Int) 4 = (r4 : Int) := by rw [Int.tmod_eq_emod_of_nonneg (by omega)]; omega
    have hr0 : ¬ ((r4 : Int) = 0) := by omega
    have hr0' : ((r4 : Int) == 0) = false := by simp; omega
    have hr0n : ¬ r4 = 0 := by omega
    have hr0m : ((r4 : Int) != 0) = true := by simp; omega
    clear hr4
    refine wp_region_held_drew (S := (fun W => Below w5.heap.size w5 W)) (by kernel_rfl) (below_dr (below_d0 _)) (fun hHeld => ?_)
    refine take_at (i := 0) (d := 99) (oi := ?o46) (v := ?v46) ?hi46 ?hd46 (by kernel_rfl) (by kernel_rfl) (by kernel_rfl) ?hw46 ?hy46 ?hq46 (by assumption) ?r46
    case hi46 => (simp only [List.getElem?_toArray, List.getElem?_cons_zero]; rfl)
    case hd46 => rfl
    case hw46 => rfl
    case hy46 => ((intro w hSw; (try dsimp only at hSw); go_simp) <;> (with_reducible rfl))
    case hq46 => exact fun _ _ _ h => h
    simp only [List.set_cons_succ, List.set_cons_zero]
    refine take_at (i := 1) (d := 100) (oi := ?o47) (v := ?v47) ?hi47 ?hd47 (by kernel_rfl) (by kernel_rfl) (by kernel_rfl) ?hw47 ?hy47 ?hq47 (by assumption) ?r47
    case hi47 => (simp only [List.getElem?_toArray, List.getElem?_cons_succ, List.getElem?_cons_zero]; rfl)
    case hd47 => rfl
    case hw47 => rfl
    case hy47 => ((intro w hSw; (try dsimp only at hSw); go_simp) <;> (with_reducible rfl))
    case hq47 => exact fun _ _ _ h => h
    simp only [List.set_cons_succ, List.set_cons_zero]
    refine take_at (i := 2) (d := 101) (oi := ?o48) (v := ?v48) ?hi48 ?hd48 (by kernel_rfl) (by kernel_rfl) (by kernel_rfl) ?hw48 ?hy48 ?hq48 (by assumption) ?r48
    case hi48 => (simp only [List.getElem?_toArray, List.getElem?_cons_succ, List.getElem?_cons_zero]; rfl)
    case hd48 => rfl
    case hw48 => rfl
    case hy48 => ((intro w hSw; (try dsimp only at hSw); go_simp) <;> (with_reducible rfl))
    case hq48 => exact fun _ _ _ h => h
    simp only [List.set_cons_succ, List.set_cons_zero]
    refine take_at (i := 3) (d := 102) (oi := ?o49) (v := ?v49) ?hi49 ?hd49 (by kernel_rfl) (by kernel_rfl) (by kernel_rfl) ?hw49 ?hy49 ?hq49 (by assumption) ?r49
    case hi49 => (simp only [List.getElem?_toArray, List.getElem?_cons_succ, List.getElem?_cons_zero]; rfl)
    case hd49 => rfl
    case hw49 => rfl
    case hy49 => ((intro w hSw; (try dsimp only at hSw); go_simp) <;> (with_reducible rfl))
    case hq49 => exact fun _ _ _ h => h
    simp only [List.set_cons_succ, List.set_cons_zero]
    refine take_at (i := 4) (d := 103) (oi := ?o50) (v := ?v50) ?hi50 ?hd50 (by kernel_rfl) (by kernel_rfl) (by kernel_rfl) ?hw50 ?hy50 ?hq50 (by assumption) ?r50
    case hi50 => (simp only [List.getElem?_toArray, List.getElem?_cons_succ, List.getElem?_cons_zero]; rfl)
    case hd50 => rfl
    case hw50 => rfl
    case hy50 => ((intro w hSw; (try dsimp only at hSw); obtain ⟨k0, k1, k2⟩ := (X0.out _ hSw).cells; go_simp) <;> (with_reducible rfl))
    case hq50 => exact fun _ _ _ h => h
    simp only [List.set_cons_succ, List.set_cons_zero]
    refine take_at (i := 5) (d := 104) (oi := ?o51) (v := ?v51) ?hi51 ?hd51 (by kernel_rfl) (by kernel_rfl) (by kernel_rfl) ?hw51 ?hy51 ?hq51 (by assumption) ?r51
    case hi51 => (simp only [List.getElem?_toArray, List.getElem?_cons_succ, List.getElem?_cons_zero]; rfl)
    case hd51 => rfl
    case hw51 => rfl
    case hy51 => ((intro w hSw; (try dsimp only at hSw); go_simp) <;> (with_reducible rfl))
    case hq51 => exact fun _ _ _ h => h
    simp only [List.set_cons_succ, List.set_cons_zero]
    refine take_at (i := 6) (d := 105) (oi := ?o52) (v := ?v52) ?hi52 ?hd52 (by kernel_rfl) (by kernel_rfl) (by kernel_rfl) ?hw52 ?hy52 ?hq52 (by assumption) ?r52
    case hi52 => (simp only [List.getElem?_toArray, List.getElem?_cons_succ, List.getElem?_cons_zero]; rfl)
    case hd52 => rfl
    case hw52 => rfl
    case hy52 => ((intro w hSw; (try dsimp only at hSw); go_simp) <;> (with_reducible rfl))
    case hq52 => exact fun _ _ _ h => h
    simp only [List.set_cons_succ, List.set_cons_zero]
    refine take_at (i := 7) (d := 106) (oi := ?o53) (v := ?v53) ?hi53 ?hd53 (by kernel_rfl) (by kernel_rfl) (by kernel_rfl) ?hw53 ?hy53 ?hq53 (by assumption) ?r53
    case hi53 => (simp only [List.getElem?_toArray, List.getElem?_cons_succ, List.getElem?_cons_zero]; rfl)
    case hd53 => rfl
    case hw53 => rfl
    case hy53 => ((intro w hSw; (try dsimp only at hSw); go_simp) <;> (with_reducible rfl))
    case hq53 => exact fun _ _ _ h => h
    simp only [List.set_cons_succ, List.set_cons_zero]
    refine take_at (i := 8) (d := 107) (oi := ?o54) (v := ?v54) ?hi54 ?hd54 (by kernel_rfl) (by kernel_rfl) (by kernel_rfl) ?hw54 ?hy54 ?hq54 (by assumption) ?r54
    case hi54 => (simp only [List.getElem?_toArray, List.getElem?_cons_succ, List.getElem?_cons_zero]; rfl)
    case hd54 => rfl
    case hw54 => rfl
    case hy54 => ((intro w hSw; (try dsimp only at hSw); go_simp) <;> (with_reducible rfl))
    case hq54 => exact fun _ _ _ h => h
    simp only [List.set_cons_succ, List.set_cons_zero]
    refine take_at (i := 9) (d := 108) (oi := ?o55) (v := ?v55) ?hi55 ?hd55 (by kernel_rfl) (by kernel_rfl) (by kernel_rfl) ?hw55 ?hy55 ?hq55 (by assumption) ?r55
    case hi55 => (simp only [List.getElem?_toArray, List.getElem?_cons_succ, List.getElem?_cons_zero]; rfl)
    case hd55 => rfl
    case hw55 => rfl
    case hy55 => ((intro w hSw; (try dsimp only at hSw); go_simp) <;> (with_reducible rfl))
    case hq55 => exact fun _ _ _ h => h
    simp only [List.set_cons_succ, List.set_cons_zero]
    refine take_at (i := 10) (d := 109) (oi := ?o56) (v := ?v56) ?hi56 ?hd56 (by kernel_rfl) (by kernel_rfl) (by kernel_rfl) ?hw56 ?hy56 ?hq56 (by assumption) ?r56
    case hi56 => (simp only [List.getElem?_toArray, List.getElem?_cons_succ, List.getElem?_cons_zero]; rfl)
    case hd56 => rfl
    case hw56 => rfl
    case hy56 => ((intro w hSw; (try dsimp only at hSw); obtain ⟨k0, k1, k2⟩ := (X0.out _ hSw).cells; go_simp) <;> (with_reducible rfl))
    case hq56 => exact fun _ _ _ h => h
    simp only [List.set_cons_succ, List.set_cons_zero]
    refine take_at (i := 11) (d := 110) (oi := ?o57) (v := ?v57) ?hi57 ?hd57 (by kernel_rfl) (by kernel_rfl) (by kernel_rfl) ?hw57 ?hy57 ?hq57 (by assumption) ?r57
    case hi57 => (simp only [List.getElem?_toArray, List.getElem?_cons_succ, List.getElem?_cons_zero]; rfl)
    case hd57 => rfl
    case hw57 => rfl
    case hy57 => ((intro w hSw; (try dsimp only at hSw); go_simp) <;> (with_reducible rfl))
    case hq57 => exact fun _ _ _ h => h
    simp only [List.set_cons_succ, List.set_cons_zero]
    refine take_at (i := 12) (d := 111) (oi := ?o58) (v := ?v58) ?hi58 ?hd58 (by kernel_rfl) (by kernel_rfl) (by kernel_rfl) ?hw58 ?hy58 ?hq58 (by assumption) ?r58
    case hi58 => (simp only [List.getElem?_toArray, List.getElem?_cons_succ, List.getElem?_cons_zero]; rfl)
    case hd58 => rfl
    case hw58 => rfl
    case hy58 => ((intro w hSw; (try dsimp only at hSw); go_simp) <;> (with_reducible rfl))
    case hq58 => exact fun _ _ _ h => h
    simp only [List.set_cons_succ, List.set_cons_zero]
    refine take_at (i := 13) (d := 112) (oi := ?o59) (v := ?v59) ?hi59 ?hd59 (by kernel_rfl) (by kernel_rfl) (by kernel_rfl) ?hw59 ?hy59 ?hq59 (by assumption) ?r59
    case hi59 => (simp only [List.getElem?_toArray, List.getElem?_cons_succ, List.getElem?_cons_zero]; rfl)
    case hd59 => rfl
    case hw59 => rfl
    case hy59 => ((intro w hSw; (try dsimp only at hSw); go_simp) <;> (with_reducible rfl))
    case hq59 => exact fun _ _ _ h => h
    simp only [List.set_cons_succ, List.set_cons_zero]
    refine take_at (i := 14) (d := 113) (oi := ?o60) (v := ?v60) ?hi60 ?hd60 (by kernel_rfl) (by kernel_rfl) (by kernel_rfl) ?hw60 ?hy60 ?hq60 (by assumption) ?r60
    case hi60 => (simp only [List.getElem?_toArray, List.getElem?_cons_succ, List.getElem?_cons_zero]; rfl)
    case hd60 => rfl
    case hw60 => rfl
    case hy60 => ((intro w hSw; (try dsimp only at hSw); go_simp) <;> (with_reducible rfl))
    case hq60 => exact fun _ _ _ h => h
    simp only [List.set_cons_succ, List.set_cons_zero]
    refine take_at (i := 15) (d := 114) (oi := ?o61) (v := ?v61) ?hi61 ?hd61 (by kernel_rfl) (by kernel_rfl) (by kernel_rfl) ?hw61 ?hy61 ?hq61 (by assumption) ?r61
    case hi61 => (simp only [List.getElem?_toArray, List.getElem?_cons_succ, List.getElem?_cons_zero]; rfl)
    case hd61 => rfl
    case hw61 => rfl
    case hy61 => ((intro w hSw; (try dsimp only at hSw); go_simp) <;> (with_reducible rfl))
    case hq61 => exact fun _ _ _ h => h
    simp only [List.set_cons_succ, List.set_cons_zero]
    refine take_at (i := 16) (d := 115) (oi := ?o62) (v := ?v62) ?hi62 ?hd62 (by kernel_rfl) (by kernel_rfl) (by kernel_rfl) ?hw62 ?hy62 ?hq62 (by assumption) ?r62
    case hi62 => (simp only [List.getElem?_toArray, List.getElem?_cons_succ, List.getElem?_cons_zero]; rfl)
    case hd62 => rfl
    case hw62 => rfl
    case hy62 => ((intro w hSw; (try dsimp only at hSw); obtain ⟨k0, k1, k2⟩ := (X0.out _ hSw).cells; go_simp) <;> (with_reducible rfl))
    case hq62 => exact fun _ _ _ h => h
    simp only [List.set_cons_succ, List.set_cons_zero]
    refine take_at (i := 17) (d := 116) (oi := ?o63) (v := ?v63) ?hi63 ?hd63 (by kernel_rfl) (by kernel_rfl) (by kernel_rfl) ?hw63 ?hy63 ?hq63 (by assumption) ?r63
    case hi63 => (simp only [List.getElem?_toArray, List.getElem?_cons_succ, List.getElem?_cons_zero]; rfl)
    case hd63 => rfl
    case hw63 => rfl
    case hy63 => ((intro w hSw; (try dsimp only at hSw); go_simp) <;> (with_reducible rfl))
    case hq63 => exact fun _ _ _ h => h
    simp only [List.set_cons_succ, List.set_cons_zero]
    refine take_at (i := 18) (d := 117) (oi := ?o64) (v := ?v64) ?hi64 ?hd64 (by kernel_rfl) (by kernel_rfl) (by kernel_rfl) ?hw64 ?hy64 ?hq64 (by assumption) ?r64
    case hi64 => (simp only [List.getElem?_toArray, List.getElem?_cons_succ, List.getElem?_cons_zero]; rfl)
    case hd64 => rfl
    case hw64 => rfl
    case hy64 => ((intro w hSw; (try dsimp only at hSw); go_simp) <;> (with_reducible rfl))
    case hq64 => exact fun _ _ _ h => h
    simp only [List.set_cons_succ, List.set_cons_zero]
    refine take_at (i := 19) (d := 118) (oi := ?o65) (v := ?v65) ?hi65 ?hd65 (by kernel_rfl) (by kernel_rfl) (by kernel_rfl) ?hw65 ?hy65 ?hq65 (by assumption) ?r65
    case hi65 => (simp only [List.getElem?_toArray, List.getElem?_cons_succ, List.getElem?_cons_zero]; rfl)
    case hd65 => rfl
    case hw65 => rfl
    case hy65 => ((intro w hSw; (try dsimp only at hSw); go_simp) <;> (with_reducible rfl))
    case hq65 => exact fun _ _ _ h => h
    simp only [List.set_cons_succ, List.set_cons_zero]
    refine take_at (i := 20) (d := 119) (oi := ?o66) (v := ?v66) ?hi66 ?hd66 (by kernel_rfl) (by kernel_rfl) (by kernel_rfl) ?hw66 ?hy66 ?hq66 (by assumption) ?r66
    case hi66 => (simp only [List.getElem?_toArray, List.getElem?_cons_succ, List.getElem?_cons_zero]; rfl)
    case hd66 => rfl
    case hw66 => rfl
    case hy66 => ((intro w hSw; (try dsimp only at hSw); go_simp) <;> (with_reducible rfl))
    case hq66 => exact fun _ _ _ h => h
    simp only [List.set_cons_succ, List.set_cons_zero]
    refine take_at (i := 21) (d := 120) (oi := ?o67) (v := ?v67) ?hi67 ?hd67 (by kernel_rfl) (by kernel_rfl) (by kernel_rfl) ?hw67 ?hy67 ?hq67 (by assumption) ?r67
    case hi67 => (simp only [List.getElem?_toArray, List.getElem?_cons_succ, List.getElem?_cons_zero]; rfl)
    case hd67 => rfl
    case hw67 => rfl
    case hy67 => ((intro w hSw; (try dsimp only at hSw); go_simp) <;> (with_reducible rfl))
    case hq67 => exact fun _ _ _ h => h
    simp only [List.set_cons_succ, List.set_cons_zero]
    refine take_at (i := 22) (d := 121) (oi := ?o68) (v := ?v68) ?hi68 ?hd68 (by kernel_rfl) (by kernel_rfl) (by kernel_rfl) ?hw68 ?hy68 ?hq68 (by assumption) ?r68
    case hi68 => (simp only [List.getElem?_toArray, List.getElem?_cons_succ, List.getElem?_cons_zero]; rfl)
    case hd68 => rfl
    case hw68 => rfl
    case hy68 => ((intro w hSw; (try dsimp only at hSw); go_simp) <;> (with_reducible rfl))
    case hq68 => exact fun _ _ _ h => h
    simp only [List.set_cons_succ, List.set_cons_zero]
    refine take_at (i := 23) (d := 122) (oi := ?o69) (v := ?v69) ?hi69 ?hd69 (by kernel_rfl) (by kernel_rfl) (by kernel_rfl) ?hw69 ?hy69 ?hq69 (by assumption) ?r69
    case hi69 => (simp only [List.getElem?_toArray, List.getElem?_cons_succ, List.getElem?_cons_zero]; rfl)
    case hd69 => rfl
    case hw69 => rfl
    case hy69 => ((intro w hSw; (try dsimp only at hSw); go_simp) <;> (with_reducible rfl))
    case hq69 => exact fun _ _ _ h => h
    simp only [List.set_cons_succ, List.set_cons_zero]
    refine take_at (i := 24) (d := 123) (oi := ?o70) (v := ?v70) ?hi70 ?hd70 (by kernel_rfl) (by kernel_rfl) (by kernel_rfl) ?hw70 ?hy70 ?hq70 (by assumption) ?r70
    case hi70 => (simp only [List.getElem?_toArray, List.getElem?_cons_succ, List.getElem?_cons_zero]; rfl)
    case hd70 => rfl
    case hw70 => rfl
    case hy70 => ((intro w hSw; (try dsimp only at hSw); go_simp) <;> (with_reducible rfl))
    case hq70 => exact fun _ _ _ h => h
    simp only [List.set_cons_succ, List.set_cons_zero]
    refine take_at (i := 25) (d := 124) (oi := ?o71) (v := ?v71) ?hi71 ?hd71 (by kernel_rfl) (by kernel_rfl) (by kernel_rfl) ?hw71 ?hy71 ?hq71 (by assumption) ?r71
    case hi71 => (simp only [List.getElem?_toArray, List.getElem?_cons_succ, List.getElem?_cons_zero]; rfl)
    case hd71 => rfl
    case hw71 => rfl
    case hy71 => ((intro w hSw; (try dsimp only at hSw); go_simp) <;> (with_reducible rfl))
    case hq71 => exact fun _ _ _ h => h
    simp only [List.set_cons_succ, List.set_cons_zero]
    refine take_at (i := 26) (d := 125) (oi := ?o72) (v := ?v72) ?hi72 ?hd72 (by kernel_rfl) (by kernel_rfl) (by kernel_rfl) ?hw72 ?hy72 ?hq72 (by assumption) ?r72
    case hi72 => (simp only [List.getElem?_toArray, List.getElem?_cons_succ, List.getElem?_cons_zero]; rfl)
    case hd72 => rfl
    case hw72 => rfl
    case hy72 => ((intro w hSw; (try dsimp only at hSw); go_simp) <;> (with_reducible rfl))
    case hq72 => exact fun _ _ _ h => h
    simp only [List.set_cons_succ, List.set_cons_zero]
    refine take_at (i := 27) (d := 126) (oi := ?o73) (v := ?v73) ?hi73 ?hd73 (by kernel_rfl) (by kernel_rfl) (by kernel_rfl) ?hw73 ?hy73 ?hq73 (by assumption) ?r73
    case hi73 => (simp only [List.getElem?_toArray, List.getElem?_cons_succ, List.getElem?_cons_zero]; rfl)
    case hd73 => rfl
    case hw73 => rfl
    case hy73 => ((intro w hSw; (try dsimp only at hSw); obtain ⟨k0, k1, k2⟩ := (X0.out _ hSw).cells; go_simp) <;> (with_reducible rfl))
    case hq73 => exact fun _ _ _ h => h
    simp only [List.set_cons_succ, List.set_cons_zero]
    refine take_at (i := 28) (d := 127) (oi := ?o74) (v := ?v74) ?hi74 ?hd74 (by kernel_rfl) (by kernel_rfl) (by kernel_rfl) ?hw74 ?hy74 ?hq74 (by assumption) ?r74
    case hi74 => (simp only [List.getElem?_toArray, List.getElem?_cons_succ, List.getElem?_cons_zero]; rfl)
    case hd74 => rfl
    case hw74 => rfl
    case hy74 => ((intro w hSw; (try dsimp only at hSw); go_simp) <;> (with_reducible rfl))
    case hq74 => exact fun _ _ _ h => h
    simp only [List.set_cons_succ, List.set_cons_zero]
    refine take_at (i := 29) (d := 128) (oi := ?o75) (v := ?v75) ?hi75 ?hd75 (by kernel_rfl) (by kernel_rfl) (by kernel_rfl) ?hw75 ?hy75 ?hq75 (by assumption) ?r75
    case hi75 => (simp only [List.getElem?_toArray, List.getElem?_cons_succ, List.getElem?_cons_zero]; rfl)
    case hd75 => rfl
    case hw75 => rfl
    case hy75 => ((intro w hSw; (try dsimp only at hSw); go_simp) <;> (with_reducible rfl))
    case hq75 => exact fun _ _ _ h => h
    simp only [List.set_cons_succ, List.set_cons_zero]
    refine take_at (i := 30) (d := 129) (oi := ?o76) (v := ?v76) ?hi76 ?hd76 (by kernel_rfl) (by kernel_rfl) (by kernel_rfl) ?hw76 ?hy76 ?hq76 (by assumption) ?r76
    case hi76 => (simp only [List.getElem?_toArray, List.getElem?_cons_succ, List.getElem?_cons_zero]; rfl)
    case hd76 => rfl
    case hw76 => rfl
    case hy76 => ((intro w hSw; (try dsimp only at hSw); go_simp) <;> (with_reducible rfl))
    case hq76 => exact fun _ _ _ h => h
    simp only [List.set_cons_succ, List.set_cons_zero]
    refine call_at (i := 31) (d := 130) (oi := ?o77) (f := ?f77) (args := ?a77) ?hi77 ?hd77 (by kernel_rfl) ?hw77 ?he77 ?hc77
    case hi77 => (simp only [List.getElem?_toArray, List.getElem?_cons_succ, List.getElem?_cons_zero]; rfl)
    case hd77 => rfl
    case hw77 => rfl
    case he77 => (go_simp; constructor <;> with_reducible rfl)
    have em := ents_any A8 A k k c8 c (l.take k) (l.take k) _ (HX.out.1.on hHeld hHeld.size) (Row.on HX.out.2.1 hHeld hHeld.size) hk9 hk9
    rw [eqE_true rfl] at em
    refine em.mono ?_
    rintro r wv ⟨rfl, hb1⟩
    have kb : Below w5.heap.size w5 wv := hHeld.trans (hb1.mono hHeld.size)
    clear em
    refine ⟨_, rfl, kb, fun hHeld => ?_⟩
    simp only [List.set_cons_succ, List.set_cons_zero]
    refine take_at (i := 32) (d := 131) (oi := ?o78) (v := ?v78) ?hi78 ?hd78 (by kernel_rfl) (by kernel_rfl) (by kernel_rfl) ?hw78 ?hy78 ?hq78 (by assumption) ?r78
    case hi78 => (simp only [List.getElem?_toArray, List.getElem?_cons_succ, List.getElem?_cons_zero]; rfl)
    case hd78 => rfl
    case hw78 => rfl
    case hy78 => ((intro w hSw; (try dsimp only at hSw); go_simp) <;> (with_reducible rfl))
    case hq78 => exact fun _ _ _ h => h
    simp only [List.set_cons_succ, List.set_cons_zero]
    refine take_at (i := 33) (d := 132) (oi := ?o79) (v := ?v79) ?hi79 ?hd79 (by kernel_rfl) (by kernel_rfl) (by kernel_rfl) ?hw79 ?hy79 ?hq79 (by assumption) ?r79
    case hi79 => (simp only [List.getElem?_toArray, List.getElem?_cons_succ, List.getElem?_cons_zero]; rfl)
    case hd79 => rfl
    case hw79 => rfl
    case hy79 => ((intro w hSw; (try dsimp only at hSw); go_simp) <;> (with_reducible rfl))
    case hq79 => exact fun _ _ _ h => h
    simp only [List.set_cons_succ, List.set_cons_zero]
    refine take_at (i := 34) (d := 133) (oi := ?o80) (v := ?v80) ?hi80 ?hd80 (by kernel_rfl) (by kernel_rfl) (by kernel_rfl) ?hw80 ?hy80 ?hq80 (by assumption) ?r80
    case hi80 => (simp only [List.getElem?_toArray, List.getElem?_cons_succ, List.getElem?_cons_zero]; rfl)
    case hd80 => rfl
    case hw80 => rfl
    case hy80 => ((intro w hSw; (try dsimp only at hSw); go_simp) <;> (with_reducible rfl))
    case hq80 => exact fun _ _ _ h => h
    simp only [List.set_cons_succ, List.set_cons_zero]
    refine take_at (i := 35) (d := 134) (oi := ?o81) (v := ?v81) ?hi81 ?hd81 (by kernel_rfl) (by kernel_rfl) (by kernel_rfl) ?hw81 ?hy81 ?hq81 (by assumption) ?r81
    case hi81 => (simp only [List.getElem?_toArray, List.getElem?_cons_succ, List.getElem?_cons_zero]; rfl)
    case hd81 => rfl
    case hw81 => rfl
    case hy81 => ((intro w hSw; (try dsimp only at hSw); go_simp) <;> (with_reducible rfl))
    case hq81 => exact fun _ _ _ h => h
    simp only [List.set_cons_succ, List.set_cons_zero]
    refine take_at (i := 36) (d := 135) (oi := ?o82) (v := ?v82) ?hi82 ?hd82 (by kernel_rfl) (by kernel_rfl) (by kernel_rfl) ?hw82 ?hy82 ?hq82 (by assumption) ?r82
    case hi82 => (simp only [List.getElem?_toArray, List.getElem?_cons_succ, List.getElem?_cons_zero]; rfl)
    case hd82 => rfl
    case hw82 => rfl
    case hy82 => ((intro w hSw; (try dsimp only at hSw); go_simp) <;> (with_reducible rfl))
    case hq82 => exact fun _ _ _ h => h
    simp only [List.set_cons_succ, List.set_cons_zero]
    refine take_at (i := 37) (d := 136) (oi := ?o83) (v := ?v83) ?hi83 ?hd83 (by kernel_rfl) (by kernel_rfl) (by kernel_rfl) ?hw83 ?hy83 ?hq83 (by assumption) ?r83
    case hi83 => (simp only [List.getElem?_toArray, List.getElem?_cons_succ, List.getElem?_cons_zero]; rfl)
    case hd83 => rfl
    case hw83 => rfl
    case hy83 => ((intro w hSw; (try dsimp only at hSw); go_simp) <;> (with_reducible rfl))
    case hq83 => exact fun _ _ _ h => h
    simp only [List.set_cons_succ, List.set_cons_zero]
    refine take_at (i := 38) (d := 137) (oi := ?o84) (v := ?v84) ?hi84 ?hd84 (by kernel_rfl) (by kernel_rfl) (by kernel_rfl) ?hw84 ?hy84 ?hq84 (by assumption) ?r84
    case hi84 => (simp only [List.getElem?_toArray, List.getElem?_cons_succ, List.getElem?_cons_zero]; rfl)
    case hd84 => rfl
    case hw84 => rfl
    case hy84 => ((intro w hSw; (try dsimp only at hSw); go_simp) <;> (with_reducible rfl))
    case hq84 => exact fun _ _ _ h => h
    simp only [List.set_cons_succ, List.set_cons_zero]
    refine take_at (i := 39) (d := 138) (oi := ?o85) (v := ?v85) ?hi85 ?hd85 (by kernel_rfl) (by kernel_rfl) (by kernel_rfl) ?hw85 ?hy85 ?hq85 (by assumption) ?r85
    case hi85 => (simp only [List.getElem?_toArray, List.getElem?_cons_succ, List.getElem?_cons_zero]; rfl)
    case hd85 => rfl
    case hw85 => rfl
    case hy85 => ((intro w hSw; (try dsimp only at hSw); go_simp) <;> (with_reducible rfl))
    case hq85 => exact fun _ _ _ h => h
    simp only [List.set_cons_succ, List.set_cons_zero]
    refine take_at (i := 40) (d := 139) (oi := ?o86) (v := ?v86) ?hi86 ?hd86 (by kernel_rfl) (by kernel_rfl) (by kernel_rfl) ?hw86 ?hy86 ?hq86 (by assumption) ?r86
    case hi86 => (simp only [List.getElem?_toArray, List.getElem?_cons_succ, List.getElem?_cons_zero]; rfl)
    case hd86 => rfl
    case hw86 => rfl
    case hy86 => ((intro w hSw; (try dsimp only at hSw); go_simp) <;> (with_reducible rfl))
    case hq86 => exact fun _ _ _ h => h
    simp only [List.set_cons_succ, List.set_cons_zero]
    refine take_at (i := 41) (d := 140) (oi := ?o87) (v := ?v87) ?hi87 ?hd87 (by kernel_rfl) (by kernel_rfl) (by kernel_rfl) ?hw87 ?hy87 ?hq87 (by assumption) ?r87
    case hi87 => (simp only [List.getElem?_toArray, List.getElem?_cons_succ, List.getElem?_cons_zero]; rfl)
    case hd87 => rfl
    case hw87 => rfl
    case hy87 => ((intro w hSw; (try dsimp only at hSw); go_simp) <;> (with_reducible rfl))
    case hq87 => exact fun _ _ _ h => h
    simp only [List.set_cons_succ, List.set_cons_zero]
    refine take_at (i := 42) (d := 141) (oi := ?o88) (v := ?v88) ?hi88 ?hd88 (by kernel_rfl) (by kernel_rfl) (by kernel_rfl) ?hw88 ?hy88 ?hq88 (by assumption) ?r88
    case hi88 => (simp only [List.getElem?_toArray, List.getElem?_cons_succ, List.getElem?_cons_zero]; rfl)
    case hd88 => rfl
    case hw88 => rfl
    case hy88 => ((intro w hSw; (try dsimp only at hSw); go_simp) <;> (with_reducible rfl))
    case hq88 => exact fun _ _ _ h => h
    simp only [List.set_cons_succ, List.set_cons_zero]
    refine take_at (i := 43) (d := 142) (oi := ?o89) (v := ?v89) ?hi89 ?hd89 (by kernel_rfl) (by kernel_rfl) (by kernel_rfl) ?hw89 ?hy89 ?hq89 (by assumption) ?r89
    case hi89 => (simp only [List.getElem?_toArray, List.getElem?_cons_succ, List.getElem?_cons_zero]; rfl)
    case hd89 => rfl
    case hw89 => rfl
    case hy89 => ((intro w hSw; (try dsimp only at hSw); go_simp) <;> (with_reducible rfl))
    case hq89 => exact fun _ _ _ h => h
    simp only [List.set_cons_succ, List.set_cons_zero]
    refine take_at (i := 44) (d := 143) (oi := ?o90) (v := ?v90) ?hi90 ?hd90 (by kernel_rfl) (by kernel_rfl) (by kernel_rfl) ?hw90 ?hy90 ?hq90 (by assumption) ?r90
    case hi90 => (simp only [List.getElem?_toArray, List.getElem?_cons_succ, List.getElem?_cons_zero]; rfl)
    case hd90 => rfl
    case hw90 => rfl
    case hy90 => ((intro w hSw; (try dsimp only at hSw); go_simp) <;> (with_reducible rfl))
    case hq90 => exact fun _ _ _ h => h
    simp only [List.set_cons_succ, List.set_cons_zero]
    refine wpAnyH_done (by kernel_rfl) ?_ _
    clear v1 v1' v2 v3 v3'
    have hc9 := hHeld
    have Hd := Lib.hid (⟨X0.out _ hc9, HX.out.2.2.1.on hc9 hc9.size, HX.out.1.on hc9 hc9.size, HX.out.2.2.2.trans (hc9.mono HX.out.2.2.2.size)⟩ : _ ∧ _ ∧ _ ∧ _)
    obtain ⟨d0, d1, d2⟩ := Hd.out.1.cells
    clear hHeld hc9
    go_wp2_with fail
    have zb := Hd.out.1
    have r5 := Hd.out.2.1
    have s8 := Hd.out.2.2.1
    have B20 := Hd.out.2.2.2
    clear d0 d1 d2
    refine (Scan_any A5 u c5 (B.take u) wv (r5.first (m := u) (by omega)) (HP.out.2.2.2.1.take u) (by omega) (by omega)).mono ?_
    intro e w21 hh
    obtain ⟨A9, c9, rfl, hc9, s9, bb⟩ := hh.yes HS.out.2.2.2.2.2.2.1 (q := k) (by rw [HS.out.2.1]; exact HS.out.2.2.1) HS.out.2.2.2.1
    clear hh
    replace zb := zb.below bb
    replace r5 := r5.on bb bb.size
    replace s8 := s8.on bb bb.size
    have B21 := B20.trans (bb.mono B20.size)
    clear bb B20
    rw [HS.out.2.1] at s9
    obtain ⟨w22, hw22⟩ : ∃ x, x = w21.alloc (.cells #[.int .i64 first, .slice A9 k c9, .int .i64 (u : Int)] 36) := ⟨_, rfl⟩
    obtain ⟨z10, hz10⟩ : ∃ x, x = w21.heap.size := ⟨_, rfl⟩
    have bb : Below w21.heap.size w21 w22 := by rw [hw22]; exact (Below.refl _ _).alloc (Nat.le_refl _) _
    have z10b : BoxC w22 z10 first (.slice A9 k c9) (u : Int) := by rw [hw22, hz10]; exact BoxC.new _ _ _ _
    have sz10 : z10 + 1 = w22.heap.size := by rw [hw22, hz10]; simp
    go_wp2_with fail
    rw [← hw22, ← hz10]
    clear hw22 hz10
    replace zb := zb.below bb
    replace r5 := r5.on bb bb.size
    replace s8 := s8.on bb bb.size
    replace s9 := s9.on bb bb.size
    have B22 := B21.trans (bb.mono B21.size)
    clear bb B21
    refine (file_any first A k c (l.take k) w22 ((Row.first HL.out.2 hkn).on B22 B22.size) (by omega) (by omega)).mono ?_
    intro e w23 hh
    obtain ⟨A10, c10, rfl, hc10, r10, -, bb⟩ := hh.out HS.out.2.2.2.2.2.1 HS.out.2.2.2.2.2.2.2
    clear hh
    replace zb := zb.below bb
    replace r5 := r5.on bb bb.size
    replace s8 := s8.on bb bb.size
    replace s9 := s9.on bb bb.size
    replace z10b := z10b.below bb
    have B23 := B22.trans (bb.mono B22.size)
    clear bb B22
    obtain ⟨d0, d1, d2⟩ := zb.cells
    obtain ⟨k0, k1, k2⟩ := z10b.cells
    go_wp2_with fail
    have em := ents_any A8 A9 k k c8 c9 (l.take k) (l.take k) w23 s8 s9 hk9 hk9
    rw [eqE_true rfl] at em
    refine em.mono ?_
    rintro e w24 ⟨rfl, bb⟩
    clear em d0 d1 d2 k0 k1 k2
    replace zb := zb.below bb
    replace r5 := r5.on bb bb.size
    replace s8 := s8.on bb bb.size
    replace s9 := s9.on bb bb.size
    replace z10b := z10b.below bb
    replace r10 := r10.on bb bb.size
    have B24 := B23.trans (bb.mono B23.size)
    clear bb B23
    obtain ⟨d0, d1, d2⟩ := zb.cells
    go_wp2_with fail
    have sm := same_any A10 A5 u u c10 c5 (B.take u) (B.take u) w24 r10 (r5.first (m := u) (by omega)) (HP.out.2.2.2.1.take u) (HP.out.2.2.2.1.take u)
    rw [show eqB (B.take u) (B.take u) = true from decide_eq_true rfl] at sm
    refine sm.mono ?_
    rintro e wf ⟨rfl, rfl⟩
    clear sm d0 d1 d2
    go_wp2_with fail
    refine (wakes_true w24).mono ?_
    rintro e wg ⟨rfl, bg⟩
    go_wp2_with fail
    go_ret
    exact ⟨rfl, B24.trans (bg.mono B24.size)⟩

end Go.Proofs.Ytlojkbmoaifkaaa
