/-
  OneMore: it returns true.
-/
import Derived.Test.YtlblfpfdebmcgaaDoorWakesO
namespace Go.Proofs.YtlblfpfdebmcgaaDoor
open Go.RowKit
set_option linter.unusedVariables false

set_option maxRecDepth 100000 in
set_option maxHeartbeats 8000000 in
theorem more_law (first : Int) (A : Option Addr) (n c : Nat) (l : List EnP) (A' : Option Addr) (m c' : Nat) (k : List EnP) (w : World) (hT : Cr.Tab w) (hl : Es w w.heap.size A n l) (hk : Es w w.heap.size A' m k) :
    Calls Tryd.prog 6 #[.int .i64 first, .slice A n c, .slice A' m c'] w fun e w' => e = .returned (.bool true) ∧ Below w.heap.size w w' := by
  obtain ⟨i0, hi, hz0, hz1, hz2⟩ := info_parts Cr.info_u8
  obtain ⟨j0, hj, hy0, hy1, hy2⟩ := info_partsV info_entry
  have HL := Lib.hid (⟨hT, hl, hk⟩ : _ ∧ _ ∧ _)
  clear hT hl hk
  by_cases h1 : 20 < n
  · have t0 : decide ((20 : Int) < (n : Int)) = true := by simp; omega
    go_enter Tryd.func6, Tryd.ntmps6
    go_wp2_with fail
    refine (wakes_true w HL.out.1).mono ?_
    rintro e w1 ⟨rfl, hb1⟩
    go_wp2_with fail
    go_ret
    exact ⟨rfl, hb1⟩
  have t0 : decide ((20 : Int) < (n : Int)) = false := by simp; omega
  by_cases h2 : 20 < m
  · have t1 : decide ((20 : Int) < (m : Int)) = true := by simp; omega
    go_enter Tryd.func6, Tryd.ntmps6
    go_wp2_with fail
    refine (wakes_true w HL.out.1).mono ?_
    rintro e w1 ⟨rfl, hb1⟩
    go_wp2_with fail
    go_ret
    exact ⟨rfl, hb1⟩
  have t1 : decide ((20 : Int) < (m : Int)) = false := by simp; omega
  by_cases hf : IdxP first
  · by_cases hal : AllR l
    · by_cases hak : AllR k
      · have hall : AllR (l ++ k) := all_append_r.2 ⟨hal, hak⟩
        obtain ⟨QF, hQF⟩ : ∃ q, (headL first ++ recsL (l ++ k)).length = q := ⟨_, rfl⟩
        obtain ⟨QS, hQS⟩ : ∃ q, (l ++ k).length = q := ⟨_, rfl⟩
        have hsc := scan_file hf hall
        rw [hQS] at hsc
        obtain ⟨UF, hUF⟩ : ∃ u, 6 + 15 * (QS : Int) = u := ⟨_, rfl⟩
        rw [hUF] at hsc
        obtain ⟨Q2, hQ2⟩ : ∃ q, (recsL l).length = q := ⟨_, rfl⟩
        obtain ⟨Q3, hQ3⟩ : ∃ q, (recsL k).length = q := ⟨_, rfl⟩
        have HP := Lib.hid (⟨headP_yes hf, putP_yes hal, putP_yes hak, (if_pos ⟨hf, hall⟩ : fileP first (l ++ k) = (headL first ++ recsL (l ++ k), 0)), headL_length first, hQ2, hQ3, hQF⟩ : _ ∧ _ ∧ _ ∧ _ ∧ _ ∧ _ ∧ _ ∧ _)
        have hl1 := HL.out.2.1.len
        have hl2 := HL.out.2.2.len
        have hlen : QF ≤ 1000 ∧ Q2 ≤ 1000 ∧ Q3 ≤ 1000 ∧ QS = n + m ∧ QF = 6 + Q2 + Q3 := by
          rw [List.length_append, headL_length, recsL_append, List.length_append] at hQF
          rw [recsL_length] at hQ2 hQ3 hQF
          rw [recsL_length] at hQF
          rw [List.length_append] at hQS
          omega
        have hcat : headL first ++ recsL l ++ recsL k = headL first ++ recsL (l ++ k) := by rw [recsL_append, List.append_assoc]
        have HB := Lib.hid (⟨hlen, hsc, hQS, (headL_byt first).append (recsL_byt (l ++ k))⟩ : _ ∧ _ ∧ _ ∧ _)
        have HC := Lib.hid hcat
        clear hf hal hak hall hQF hsc hUF hQ2 hQ3 hlen hcat hl1 hl2 hQS
        go_enter Tryd.func6, Tryd.ntmps6
        go_wp2_with (at_builtin; refine hold ?_)
        refine unhold (wpList_append (.tmp 27) (.tmp 28) 22 Tryd.underlying22 hj hy0 hy1 hy2 rfl (by decide) (own_empty w w.heap.size 40 3 (Nat.le_refl _)) ((Row.source (by decide) EnP.len EnP.one HL.out.2.1).alloc _) (by unfold maxLen; omega) (by omega) (by simp) rfl rfl rfl rfl ?_)
        intro v1 w1 L1'
        have b1 : Below w.heap.size w w1 := L1'.below ((Below.refl _ w).alloc (Nat.le_refl _) _) (by simp) (fun g hg => by simp [Value.ownBlock] at hg; omega)
        have n1 : ∀ g, v1.ownBlock = some g → w.heap.size ≤ g := L1'.new (fun g hg => by simp [Value.ownBlock] at hg; omega) (by simp)
        have own1 := L1'.1
        rw [Nat.zero_add, List.nil_append] at own1
        obtain ⟨A1, c1, rfl, _⟩ := own_slice own1
        have H1 := Lib.hid (⟨b1, n1⟩ : _ ∧ _)
        clear L1' b1 n1
        go_wp2_with (at_builtin; refine hold ?_)
        refine unhold (wpList_append (.tmp 29) (.tmp 30) 22 Tryd.underlying22 hj hy0 hy1 hy2 rfl (by decide) own1 (Row.source (by decide) EnP.len EnP.one (HL.out.2.2.on H1.out.1 H1.out.1.size)) (by unfold maxLen; omega) (by omega) H1.out.1.size rfl rfl rfl rfl ?_)
        intro v2 w2 L2'
        have B2 : Below w.heap.size w w2 := L2'.below H1.out.1 H1.out.1.size H1.out.2
        have own2 := L2'.1
        rw [← List.flatMap_append] at own2
        obtain ⟨A2, c2, rfl, _⟩ := own_slice own2
        have es2 : Es w2 w2.heap.size A2 (n + m) (l ++ k) := Row.of_own (by decide) EnP.len own2
        obtain ⟨M, hM⟩ : ∃ M, M = n + m := ⟨_, rfl⟩
        rw [← hM] at es2 ⊢
        have HM := Lib.hid hM
        clear L2' own2 own1 hM
        go_wp2_with fail
        refine (head_any first w2).mono ?_
        intro e w3 h3
        obtain ⟨A3, c3, rfl, -, r3, -, b3⟩ := h3.out HP.out.1 HP.out.2.2.2.2.1
        have B3 := B2.trans (b3.mono B2.size)
        have es3 := es2.on b3 b3.size
        clear h3 b3 es2 B2
        go_wp2_with fail
        refine (put_any A n c l w3 (HL.out.1.on B3) (HL.out.2.1.on B3 B3.size) (by omega)).mono ?_
        intro e w4 h4
        obtain ⟨A4, c4, rfl, -, r4, -, b4⟩ := h4.out HP.out.2.1 HP.out.2.2.2.2.2.1
        have B4 := B3.trans (b4.mono B3.size)
        have es4 := es3.on b4 b4.size
        have r3 := r3.on b4 b4.size
        clear h4 b4 es3 B3
        go_wp2_with fail
        refine (put_any A' m c' k w4 (HL.out.1.on B4) (HL.out.2.2.on B4 B4.size) (by omega)).mono ?_
        intro e w5 h5
        obtain ⟨A5, c5, rfl, -, r5, -, b5⟩ := h5.out HP.out.2.2.1 HP.out.2.2.2.2.2.2.1
        have B5 := B4.trans (b5.mono B4.size)
        have es5 := es4.on b5 b5.size
        have r3 := r3.on b5 b5.size
        have r4 := r4.on b5 b5.size
        clear h5 b5 es4 B4
        go_wp2_with fail
        refine (file_any first A2 M c2 (l ++ k) w5 (HL.out.1.on B5) es5 (by have := HM.out; omega)).mono ?_
        intro e w6 h6
        obtain ⟨A6, c6, rfl, hc6, r6, -, b6⟩ := h6.out HP.out.2.2.2.1 HP.out.2.2.2.2.2.2.2
        have B6 := B5.trans (b6.mono B5.size)
        have es6 := es5.on b6 b6.size
        have r3 := r3.on b6 b6.size
        have r4 := r4.on b6 b6.size
        have r5 := r5.on b6 b6.size
        clear h6 b6 es5 B5
        go_wp2_with fail
        refine (scan_any A6 QF c6 _ w6 (HL.out.1.on B6) r6 HB.out.2.2.2 hc6 (by have := HB.out.1; omega)).mono ?_
        intro e w7 h7
        obtain ⟨A7, c7, rfl, -, s7, b7⟩ := h7.out HB.out.2.1 HB.out.2.2.1
        have B7 := B6.trans (b7.mono B6.size)
        have es7 := es6.on b7 b7.size
        have r3 := r3.on b7 b7.size
        have r4 := r4.on b7 b7.size
        have r5 := r5.on b7 b7.size
        have r6 := r6.on b7 b7.size
        clear h7 b7 es6 B6
        obtain ⟨w8, hw8⟩ : ∃ w8, w8 = w7.alloc (.cells #[.int .i64 first, .slice A7 QS c7, .int .i64 UF] 33) := ⟨_, rfl⟩
        obtain ⟨z, hz⟩ : ∃ z, z = w7.heap.size := ⟨_, rfl⟩
        have b8 : Below w7.heap.size w7 w8 := by rw [hw8]; exact (Below.refl _ _).alloc (Nat.le_refl _) _
        have bz8 : BoxC w8 z first (.slice A7 QS c7) UF := by rw [hw8, hz]; exact BoxC.new _ _ _ _
        have B8 := B7.trans (b8.mono B7.size)
        have es8 := es7.on b8 b8.size
        have s8 := s7.on b8 b8.size
        have r3 := r3.on b8 b8.size
        have r4 := r4.on b8 b8.size
        have r5 := r5.on b8 b8.size
        have r6 := r6.on b8 b8.size
        have Hw := Lib.hid (⟨hw8, hz⟩ : _ ∧ _)
        clear hw8 hz b8 B7 es7 s7
        go_wp2_with (at_builtin; refine hold ?_)
        rw [← Hw.out.1, ← Hw.out.2]
        refine unhold (Cr.wpList_append_rdg (.tmp 80) (.tmp 81) 23 Tryd.underlying23 hi hz0 hz1 hz2 Cr.byte_cells (own_emptyG (g := z + 1) (w := w8) (base := w8.heap.size) (e := 5) (size := 1) (by rw [Hw.out.1, Hw.out.2]; simp) (Nat.le_refl _)) (r3.below ((Below.refl _ w8).alloc (Nat.le_refl _) _)) (by unfold maxLen; omega) (by omega) (by simp) rfl rfl rfl rfl ?_)
        intro v9 w9 L9
        have b9 : Below w8.heap.size w8 w9 := L9.below ((Below.refl _ w8).alloc (Nat.le_refl _) _) (by simp) (fun g hg => by have h1 : z + 1 = g := (by simpa [Value.ownBlock] using hg); have h2 : w8.heap.size = z + 1 := (by rw [Hw.out.1, Hw.out.2]; simp); omega)
        have n9 : ∀ g, v9.ownBlock = some g → w8.heap.size ≤ g := L9.new (fun g hg => by have h1 : z + 1 = g := (by simpa [Value.ownBlock] using hg); have h2 : w8.heap.size = z + 1 := (by rw [Hw.out.1, Hw.out.2]; simp); omega) (by simp)
        have own9 := L9.1
        rw [Nat.zero_add, List.nil_append] at own9
        obtain ⟨A9, c9, rfl, _, _⟩ := own_rd own9
        have H9 := Lib.hid (⟨b9, n9, HB.out.1⟩ : _ ∧ _ ∧ _)
        clear L9 b9 n9
        go_wp2_with (at_builtin; refine hold ?_)
        refine unhold (Cr.wpList_append_rdg (.tmp 82) (.tmp 83) 23 Tryd.underlying23 hi hz0 hz1 hz2 Cr.byte_cells own9 (r4.below H9.out.1) (by have := H9.out.2.2; unfold maxLen; omega) (by have := H9.out.2.2; omega) H9.out.1.size rfl rfl rfl rfl ?_)
        intro v10 w10 L10
        have b10 : Below w8.heap.size w8 w10 := L10.below H9.out.1 H9.out.1.size H9.out.2.1
        have n10 : ∀ g, v10.ownBlock = some g → w8.heap.size ≤ g := L10.new H9.out.2.1 H9.out.1.size
        have own10 := L10.1
        rw [← List.map_append] at own10
        obtain ⟨A10, c10, rfl, _, _⟩ := own_rd own10
        have H10 := Lib.hid (⟨b10, n10, HB.out.1⟩ : _ ∧ _ ∧ _)
        clear L10 b10 n10 own9
        go_wp2_with (at_builtin; refine hold ?_)
        refine unhold (Cr.wpList_append_rdg (.tmp 84) (.tmp 85) 23 Tryd.underlying23 hi hz0 hz1 hz2 Cr.byte_cells own10 (r5.below H10.out.1) (by have := H10.out.2.2; unfold maxLen; omega) (by have := H10.out.2.2; omega) H10.out.1.size rfl rfl rfl rfl ?_)
        intro v11 w11 L11
        have b11 : Below w8.heap.size w8 w11 := L11.below H10.out.1 H10.out.1.size H10.out.2.1
        have own11 := L11.1
        rw [← List.map_append, HC.out] at own11
        obtain ⟨A11, c11, rfl, _, r11⟩ := own_rd own11
        have B11 := B8.trans (b11.mono B8.size)
        have r6' := r6.on b11 b11.size
        have s11 := s8.on b11 b11.size
        have es11 := es8.on b11 b11.size
        have bz11 := bz8.below b11
        clear L11 b11 own10 own11 r3 r4 r5 r6 s8 es8 bz8 B8
        go_wp2_with fail
        have hle : 6 + Q2 + Q3 = QF := by have := HB.out.1; omega
        rw [hle] at r11 ⊢
        have sm := same_any A11 A6 QF QF c11 c6 _ _ w11 r11 r6' HB.out.2.2.2 HB.out.2.2.2
        rw [Cr.eqB_true rfl] at sm
        refine sm.mono ?_
        rintro e w12 ⟨rfl, rfl⟩
        obtain ⟨d0, d1, d2⟩ := bz11.cells
        clear sm r11 r6' hle
        go_wp2_with fail
        have em := ents_any A7 A2 QS M c7 c2 (l ++ k) (l ++ k) w11 s11 es11 (by have := HB.out.1; omega) (by have := HM.out; omega)
        rw [eqE_true rfl] at em
        refine em.mono ?_
        rintro e w12 ⟨rfl, b12⟩
        have B12 := B11.trans (b12.mono B11.size)
        clear em d0 d1 d2 b12
        go_wp2_with fail
        refine (wakes_true w12 (HL.out.1.on B12)).mono ?_
        rintro e w13 ⟨rfl, b13⟩
        go_wp2_with fail
        go_ret
        exact ⟨rfl, B12.trans (b13.mono B12.size)⟩
      · have hno : ¬ AllR (l ++ k) := fun h => hak (all_append_r.1 h).2
        obtain ⟨Z, hZ⟩ : ∃ Z, ([] : List Int).length = Z := ⟨_, rfl⟩
        obtain ⟨Q2, hQ2⟩ : ∃ q, (recsL l).length = q := ⟨_, rfl⟩
        have HP := Lib.hid (⟨headP_yes hf, putP_yes hal, putP_no hak, (if_neg (fun h => hno h.2) : fileP first (l ++ k) = ([], 2)), headL_length first, hQ2, hZ, hZ⟩ : _ ∧ _ ∧ _ ∧ _ ∧ _ ∧ _ ∧ _ ∧ _)
        clear hf hal hak hno hZ hQ2
        go_enter Tryd.func6, Tryd.ntmps6
        go_wp2_with (at_builtin; refine hold ?_)
        refine unhold (wpList_append (.tmp 27) (.tmp 28) 22 Tryd.underlying22 hj hy0 hy1 hy2 rfl (by decide) (own_empty w w.heap.size 40 3 (Nat.le_refl _)) ((Row.source (by decide) EnP.len EnP.one HL.out.2.1).alloc _) (by unfold maxLen; omega) (by omega) (by simp) rfl rfl rfl rfl ?_)
        intro v1 w1 L1'
        have b1 : Below w.heap.size w w1 := L1'.below ((Below.refl _ w).alloc (Nat.le_refl _) _) (by simp) (fun g hg => by simp [Value.ownBlock] at hg; omega)
        have n1 : ∀ g, v1.ownBlock = some g → w.heap.size ≤ g := L1'.new (fun g hg => by simp [Value.ownBlock] at hg; omega) (by simp)
        have own1 := L1'.1
        rw [Nat.zero_add, List.nil_append] at own1
        obtain ⟨A1, c1, rfl, _⟩ := own_slice own1
        have H1 := Lib.hid (⟨b1, n1⟩ : _ ∧ _)
        clear L1' b1 n1
        go_wp2_with (at_builtin; refine hold ?_)
        refine unhold (wpList_append (.tmp 29) (.tmp 30) 22 Tryd.underlying22 hj hy0 hy1 hy2 rfl (by decide) own1 (Row.source (by decide) EnP.len EnP.one (HL.out.2.2.on H1.out.1 H1.out.1.size)) (by unfold maxLen; omega) (by omega) H1.out.1.size rfl rfl rfl rfl ?_)
        intro v2 w2 L2'
        have B2 : Below w.heap.size w w2 := L2'.below H1.out.1 H1.out.1.size H1.out.2
        have own2 := L2'.1
        rw [← List.flatMap_append] at own2
        obtain ⟨A2, c2, rfl, _⟩ := own_slice own2
        have es2 : Es w2 w2.heap.size A2 (n + m) (l ++ k) := Row.of_own (by decide) EnP.len own2
        obtain ⟨M, hM⟩ : ∃ M, M = n + m := ⟨_, rfl⟩
        rw [← hM] at es2 ⊢
        have HM := Lib.hid hM
        clear L2' own2 own1 hM
        go_wp2_with fail
        refine (head_any first w2).mono ?_
        intro e w3 h3
        obtain ⟨A3, c3, rfl, -, r3, -, b3⟩ := h3.out HP.out.1 HP.out.2.2.2.2.1
        have B3 := B2.trans (b3.mono B2.size)
        have es3 := es2.on b3 b3.size
        clear h3 b3 es2 B2
        go_wp2_with fail
        refine (put_any A n c l w3 (HL.out.1.on B3) (HL.out.2.1.on B3 B3.size) (by omega)).mono ?_
        intro e w4 h4
        obtain ⟨A4, c4, rfl, -, r4, -, b4⟩ := h4.out HP.out.2.1 HP.out.2.2.2.2.2.1
        have B4 := B3.trans (b4.mono B3.size)
        have es4 := es3.on b4 b4.size
        have r3 := r3.on b4 b4.size
        clear h4 b4 es3 B3
        go_wp2_with fail
        refine (put_any A' m c' k w4 (HL.out.1.on B4) (HL.out.2.2.on B4 B4.size) (by omega)).mono ?_
        intro e w5 h5
        obtain ⟨A5, c5, rfl, -, r5, -, b5⟩ := h5.out HP.out.2.2.1 HP.out.2.2.2.2.2.2.1
        have B5 := B4.trans (b5.mono B4.size)
        have es5 := es4.on b5 b5.size
        have r3 := r3.on b5 b5.size
        have r4 := r4.on b5 b5.size
        clear h5 b5 es4 B4
        go_wp2_with fail
        refine (file_any first A2 M c2 (l ++ k) w5 (HL.out.1.on B5) es5 (by have := HM.out; omega)).mono ?_
        intro e w6 h6
        obtain ⟨A6, c6, rfl, hc6, r6, -, b6⟩ := h6.out HP.out.2.2.2.1 HP.out.2.2.2.2.2.2.2
        have B6 := B5.trans (b6.mono B5.size)
        have es6 := es5.on b6 b6.size
        have r3 := r3.on b6 b6.size
        have r4 := r4.on b6 b6.size
        have r5 := r5.on b6 b6.size
        clear h6 b6 es5 B5
        go_wp2_with fail
        refine (wakes_true w6 (HL.out.1.on B6)).mono ?_
        rintro e w7 ⟨rfl, b7⟩
        go_wp2_with fail
        go_ret
        exact ⟨rfl, B6.trans (b7.mono B6.size)⟩
    · have hno : ¬ AllR (l ++ k) := fun h => hal (all_append_r.1 h).1
      obtain ⟨L3, e3, hP3⟩ : ∃ L e, putP k = (L, e) := ⟨_, _, rfl⟩
      obtain ⟨Z, hZ⟩ : ∃ Z, ([] : List Int).length = Z := ⟨_, rfl⟩
      obtain ⟨Q3, hQ3⟩ : ∃ q, L3.length = q := ⟨_, rfl⟩
      have HP := Lib.hid (⟨headP_yes hf, putP_no hal, hP3, (if_neg (fun h => hno h.2) : fileP first (l ++ k) = ([], 2)), headL_length first, hZ, hQ3, hZ⟩ : _ ∧ _ ∧ _ ∧ _ ∧ _ ∧ _ ∧ _ ∧ _)
      clear hf hal hno hP3 hZ hQ3
      go_enter Tryd.func6, Tryd.ntmps6
      go_wp2_with (at_builtin; refine hold ?_)
      refine unhold (wpList_append (.tmp 27) (.tmp 28) 22 Tryd.underlying22 hj hy0 hy1 hy2 rfl (by decide) (own_empty w w.heap.size 40 3 (Nat.le_refl _)) ((Row.source (by decide) EnP.len EnP.one HL.out.2.1).alloc _) (by unfold maxLen; omega) (by omega) (by simp) rfl rfl rfl rfl ?_)
      intro v1 w1 L1'
      have b1 : Below w.heap.size w w1 := L1'.below ((Below.refl _ w).alloc (Nat.le_refl _) _) (by simp) (fun g hg => by simp [Value.ownBlock] at hg; omega)
      have n1 : ∀ g, v1.ownBlock = some g → w.heap.size ≤ g := L1'.new (fun g hg => by simp [Value.ownBlock] at hg; omega) (by simp)
      have own1 := L1'.1
      rw [Nat.zero_add, List.nil_append] at own1
      obtain ⟨A1, c1, rfl, _⟩ := own_slice own1
      have H1 := Lib.hid (⟨b1, n1⟩ : _ ∧ _)
      clear L1' b1 n1
      go_wp2_with (at_builtin; refine hold ?_)
      refine unhold (wpList_append (.tmp 29) (.tmp 30) 22 Tryd.underlying22 hj hy0 hy1 hy2 rfl (by decide) own1 (Row.source (by decide) EnP.len EnP.one (HL.out.2.2.on H1.out.1 H1.out.1.size)) (by unfold maxLen; omega) (by omega) H1.out.1.size rfl rfl rfl rfl ?_)
      intro v2 w2 L2'
      have B2 : Below w.heap.size w w2 := L2'.below H1.out.1 H1.out.1.size H1.out.2
      have own2 := L2'.1
      rw [← List.flatMap_append] at own2
      obtain ⟨A2, c2, rfl, _⟩ := own_slice own2
      have es2 : Es w2 w2.heap.size A2 (n + m) (l ++ k) := Row.of_own (by decide) EnP.len own2
      obtain ⟨M, hM⟩ : ∃ M, M = n + m := ⟨_, rfl⟩
      rw [← hM] at es2 ⊢
      have HM := Lib.hid hM
      clear L2' own2 own1 hM
      go_wp2_with fail
      refine (head_any first w2).mono ?_
      intro e w3 h3
      obtain ⟨A3, c3, rfl, -, r3, -, b3⟩ := h3.out HP.out.1 HP.out.2.2.2.2.1
      have B3 := B2.trans (b3.mono B2.size)
      have es3 := es2.on b3 b3.size
      clear h3 b3 es2 B2
      go_wp2_with fail
      refine (put_any A n c l w3 (HL.out.1.on B3) (HL.out.2.1.on B3 B3.size) (by omega)).mono ?_
      intro e w4 h4
      obtain ⟨A4, c4, rfl, -, r4, -, b4⟩ := h4.out HP.out.2.1 HP.out.2.2.2.2.2.1
      have B4 := B3.trans (b4.mono B3.size)
      have es4 := es3.on b4 b4.size
      have r3 := r3.on b4 b4.size
      clear h4 b4 es3 B3
      go_wp2_with fail
      refine (put_any A' m c' k w4 (HL.out.1.on B4) (HL.out.2.2.on B4 B4.size) (by omega)).mono ?_
      intro e w5 h5
      obtain ⟨A5, c5, rfl, -, r5, -, b5⟩ := h5.out HP.out.2.2.1 HP.out.2.2.2.2.2.2.1
      have B5 := B4.trans (b5.mono B4.size)
      have es5 := es4.on b5 b5.size
      have r3 := r3.on b5 b5.size
      have r4 := r4.on b5 b5.size
      clear h5 b5 es4 B4
      go_wp2_with fail
      refine (file_any first A2 M c2 (l ++ k) w5 (HL.out.1.on B5) es5 (by have := HM.out; omega)).mono ?_
      intro e w6 h6
      obtain ⟨A6, c6, rfl, hc6, r6, -, b6⟩ := h6.out HP.out.2.2.2.1 HP.out.2.2.2.2.2.2.2
      have B6 := B5.trans (b6.mono B5.size)
      have es6 := es5.on b6 b6.size
      have r3 := r3.on b6 b6.size
      have r4 := r4.on b6 b6.size
      have r5 := r5.on b6 b6.size
      clear h6 b6 es5 B5
      go_wp2_with fail
      refine (wakes_true w6 (HL.out.1.on B6)).mono ?_
      rintro e w7 ⟨rfl, b7⟩
      go_wp2_with fail
      go_ret
      exact ⟨rfl, B6.trans (b7.mono B6.size)⟩
  · obtain ⟨L2, e2, hP2⟩ : ∃ L e, putP l = (L, e) := ⟨_, _, rfl⟩
    obtain ⟨L3, e3, hP3⟩ : ∃ L e, putP k = (L, e) := ⟨_, _, rfl⟩
    obtain ⟨Z, hZ⟩ : ∃ Z, ([] : List Int).length = Z := ⟨_, rfl⟩
    obtain ⟨Q2, hQ2⟩ : ∃ q, L2.length = q := ⟨_, rfl⟩
    obtain ⟨Q3, hQ3⟩ : ∃ q, L3.length = q := ⟨_, rfl⟩
    have HP := Lib.hid (⟨headP_no hf, hP2, hP3, (if_neg (fun h => hf h.1) : fileP first (l ++ k) = ([], 2)), hZ, hQ2, hQ3, hZ⟩ : _ ∧ _ ∧ _ ∧ _ ∧ _ ∧ _ ∧ _ ∧ _)
    clear hf hP2 hP3 hZ hQ2 hQ3
    go_enter Tryd.func6, Tryd.ntmps6
    go_wp2_with (at_builtin; refine hold ?_)
    refine unhold (wpList_append (.tmp 27) (.tmp 28) 22 Tryd.underlying22 hj hy0 hy1 hy2 rfl (by decide) (own_empty w w.heap.size 40 3 (Nat.le_refl _)) ((Row.source (by decide) EnP.len EnP.one HL.out.2.1).alloc _) (by unfold maxLen; omega) (by omega) (by simp) rfl rfl rfl rfl ?_)
    intro v1 w1 L1'
    have b1 : Below w.heap.size w w1 := L1'.below ((Below.refl _ w).alloc (Nat.le_refl _) _) (by simp) (fun g hg => by simp [Value.ownBlock] at hg; omega)
    have n1 : ∀ g, v1.ownBlock = some g → w.heap.size ≤ g := L1'.new (fun g hg => by simp [Value.ownBlock] at hg; omega) (by simp)
    have own1 := L1'.1
    rw [Nat.zero_add, List.nil_append] at own1
    obtain ⟨A1, c1, rfl, _⟩ := own_slice own1
    have H1 := Lib.hid (⟨b1, n1⟩ : _ ∧ _)
    clear L1' b1 n1
    go_wp2_with (at_builtin; refine hold ?_)
    refine unhold (wpList_append (.tmp 29) (.tmp 30) 22 Tryd.underlying22 hj hy0 hy1 hy2 rfl (by decide) own1 (Row.source (by decide) EnP.len EnP.one (HL.out.2.2.on H1.out.1 H1.out.1.size)) (by unfold maxLen; omega) (by omega) H1.out.1.size rfl rfl rfl rfl ?_)
    intro v2 w2 L2'
    have B2 : Below w.heap.size w w2 := L2'.below H1.out.1 H1.out.1.size H1.out.2
    have own2 := L2'.1
    rw [← List.flatMap_append] at own2
    obtain ⟨A2, c2, rfl, _⟩ := own_slice own2
    have es2 : Es w2 w2.heap.size A2 (n + m) (l ++ k) := Row.of_own (by decide) EnP.len own2
    obtain ⟨M, hM⟩ : ∃ M, M = n + m := ⟨_, rfl⟩
    rw [← hM] at es2 ⊢
    have HM := Lib.hid hM
    clear L2' own2 own1 hM
    go_wp2_with fail
    refine (head_any first w2).mono ?_
    intro e w3 h3
    obtain ⟨A3, c3, rfl, -, r3, -, b3⟩ := h3.out HP.out.1 HP.out.2.2.2.2.1
    have B3 := B2.trans (b3.mono B2.size)
    have es3 := es2.on b3 b3.size
    clear h3 b3 es2 B2
    go_wp2_with fail
    refine (put_any A n c l w3 (HL.out.1.on B3) (HL.out.2.1.on B3 B3.size) (by omega)).mono ?_
    intro e w4 h4
    obtain ⟨A4, c4, rfl, -, r4, -, b4⟩ := h4.out HP.out.2.1 HP.out.2.2.2.2.2.1
    have B4 := B3.trans (b4.mono B3.size)
    have es4 := es3.on b4 b4.size
    have r3 := r3.on b4 b4.size
    clear h4 b4 es3 B3
    go_wp2_with fail
    refine (put_any A' m c' k w4 (HL.out.1.on B4) (HL.out.2.2.on B4 B4.size) (by omega)).mono ?_
    intro e w5 h5
    obtain ⟨A5, c5, rfl, -, r5, -, b5⟩ := h5.out HP.out.2.2.1 HP.out.2.2.2.2.2.2.1
    have B5 := B4.trans (b5.mono B4.size)
    have es5 := es4.on b5 b5.size
    have r3 := r3.on b5 b5.size
    have r4 := r4.on b5 b5.size
    clear h5 b5 es4 B4
    go_wp2_with fail
    refine (file_any first A2 M c2 (l ++ k) w5 (HL.out.1.on B5) es5 (by have := HM.out; omega)).mono ?_
    intro e w6 h6
    obtain ⟨A6, c6, rfl, hc6, r6, -, b6⟩ := h6.out HP.out.2.2.2.1 HP.out.2.2.2.2.2.2.2
    have B6 := B5.trans (b6.mono B5.size)
    have es6 := es5.on b6 b6.size
    have r3 := r3.on b6 b6.size
    have r4 := r4.on b6 b6.size
    have r5 := r5.on b6 b6.size
    clear h6 b6 es5 B5
    go_wp2_with fail
    refine (wakes_true w6 (HL.out.1.on B6)).mono ?_
    rintro e w7 ⟨rfl, b7⟩
    go_wp2_with fail
    go_ret
    exact ⟨rfl, B6.trans (b7.mono B6.size)⟩
end Go.Proofs.YtlblfpfdebmcgaaDoor
