/-
  TwoBlocks: it returns true.
-/
import Derived.Test.YtlojkbmoaifkaaaBack8
namespace Go.Proofs.Ytlojkbmoaifkaaa
open Go.RowKit
set_option linter.unusedVariables false
set_option linter.unusedSimpArgs false

theorem file_none {f : Int} (hf : Num f) : fileP f [] = (headL f, 0) ∧ EndIs (headL f) (headE f) := by
  have h1 := fileP_yes hf (l := []) rfl
  have h2 := file_end hf (cs := []) Good.nil
  rw [chunks_nil] at h1
  simp only [blksL, List.append_nil] at h1 h2
  exact ⟨h1, h2⟩
/-- A block that stands behind another point than its own is none. -/
theorem blocks_other {a c : Int} {l : List EnP} (hc : Num c) (hl : GoodC l) : ∃ (ds : List (List EnP)) (r : List Int) (u : Nat), ScanIs (headL c ++ blockL (headE a) l) c ds r ∧ (headL c ++ blksL (headE c) ds).length = u ∧ u ≤ 1000 ∧ ds.flatten.length ≤ 4 ∧ decide (0 < ds.flatten.length) = decide (headE a = headE c) := by
  have hh := head_length hc
  have hbl := block_length (headE c) l
  have hsl := shorts_le hl.2.2
  have hl4 := hl.2.1
  by_cases h : headE a = headE c
  · refine ⟨[l], [], _, ?_, rfl, ?_, ?_, ?_⟩
    · have h1 := file_scan hc (cs := [l]) (fun x hx => by obtain rfl := List.mem_singleton.1 hx; exact hl)
      simpa [blksL, h] using h1
    · simp only [blksL, List.append_nil, List.length_append]; omega
    · simpa using hl4
    · have := hl.1
      simp [h]
      exact this
  · refine ⟨[], blockL (headE a) l, _, ?_, rfl, ?_, ?_, ?_⟩
    · have h1 := scan_of (r := blockL (headE a) l) hc Good.nil (f := c) (cs := []) (by
        rintro m ⟨hm, r, e⟩
        simp only [blksE, blockL, List.append_assoc] at e
        obtain ⟨rfl, e2⟩ := body_same (r := Ga.bytesP (endP (headE a) l)) hl hm e
        have e3 : Ga.bytesP (endP (headE a) l) = Ga.bytesP (endP (headE c) l) := by
          have h4 := congrArg (List.take 4) e2
          rwa [List.take_of_length_le (by rw [bytesP_len]; exact Nat.le_refl _), List.take_append_of_le_length (by rw [bytesP_len]; exact Nat.le_refl _), List.take_of_length_le (by rw [bytesP_len]; exact Nat.le_refl _)] at h4
        exact h (Ga.chainP_point (headE_in a) (headE_in c) _ (bytesP_inj (endP_in (headE_in a) l) (endP_in (headE_in c) l) e3)))
      simpa [blksL] using h1
    · simp only [blksL, List.append_nil]; omega
    · simp
    · simp [h]
theorem block_drop (p : Int × Int) (l : List EnP) {m : Nat} (h : (blockL p l).length = m) : (blockL p l).drop (m - 4) = Ga.bytesP (endP p l) := by
  have h1 : (bodyL l).length = m - 4 := by rw [← h, blockL, List.length_append, bytesP_len]; omega
  rw [blockL, ← h1, List.drop_left]
theorem shorts_ge {l : List Int} (h : Nu.allNum l = true) : l.length ≤ (Nu.shortsOf l).length := by
  induction l with
  | nil => simp
  | cons x l ih =>
    rw [Nu.allNum, List.all_cons, Bool.and_eq_true] at h
    have h1 := Nu.isNum_iff.1 h.1
    have h2 := Nu.cnt_bd h1.1 h1.2
    have h3 := ih h.2
    rw [show Nu.shortsOf (x :: l) = Nu.shortOf x ++ Nu.shortsOf l from rfl, List.length_append, Nu.shortOf_length, List.length_cons]
    omega
theorem block_eight (p : Int × Int) {l : List EnP} (hl : GoodC l) {m : Nat} (h : (blockL p l).length = m) : 8 ≤ m ∧ m ≤ 65 := by
  have h1 := block_length p l
  have h2 := shorts_le hl.2.2
  have h3 := hl.1
  have h4 := hl.2.1
  have h5 : 3 * l.length ≤ (Nu.shortsOf (numsL l)).length := by
    rw [← nums_length]
    exact shorts_ge (allR_nums hl.2.2)
  omega

set_option maxRecDepth 100000 in
set_option maxHeartbeats 8000000 in
theorem blocks_law (a c0 : Int) (A : Option Addr) (n c : Nat) (l : List EnP) (w : World) (hl : Es w w.heap.size A n l) (hnc : n ≤ c) :
    Calls Try.prog 7 #[.int .i64 a, .int .i64 c0, .slice A n c] w fun e w' => e = .returned (.bool true) ∧ Below w.heap.size w w' := by
  obtain ⟨i0, hi, hz0, hz1, hz2⟩ := info_parts Ga.info_u8
  obtain ⟨j0, hj, hy0, hy1, hy2⟩ := info_partsV info_entry
  have B0 := Below.refl w.heap.size w
  have HL := Lib.hid (⟨hl.len, hl⟩ : _ ∧ _)
  by_cases hc0 : a < (1 : Int)
  · have t0 : decide (a < (1 : Int)) = true := by simp; omega
    go_enter Try.func7, Try.ntmps7
    go_wp2_with fail
    refine (wakes_true w).mono ?_
    rintro e w1 ⟨rfl, hb1⟩
    go_wp2_with fail
    go_ret
    exact ⟨rfl, hb1⟩
  have t0 : decide (a < (1 : Int)) = false := by simp; omega
  have t0n : (1 : Int) ≤ a := by omega
  clear hc0
  by_cases hc0 : c0 < (1 : Int)
  · have t1 : decide (c0 < (1 : Int)) = true := by simp; omega
    go_enter Try.func7, Try.ntmps7
    go_wp2_with fail
    refine (wakes_true w).mono ?_
    rintro e w1 ⟨rfl, hb1⟩
    go_wp2_with fail
    go_ret
    exact ⟨rfl, hb1⟩
  have t1 : decide (c0 < (1 : Int)) = false := by simp; omega
  have t1n : (1 : Int) ≤ c0 := by omega
  clear hc0
  by_cases hc0 : (1073741824 : Int) < max a c0
  · have t2 : decide ((1073741824 : Int) < max a c0) = true := by simp; omega
    go_enter Try.func7, Try.ntmps7
    go_wp2_with fail
    refine (wakes_true w).mono ?_
    rintro e w1 ⟨rfl, hb1⟩
    go_wp2_with fail
    go_ret
    exact ⟨rfl, hb1⟩
  have t2 : decide ((1073741824 : Int) < max a c0) = false := by simp; omega
  have t2n : a ≤ (1073741824 : Int) ∧ c0 ≤ (1073741824 : Int) := by omega
  clear hc0
  by_cases hc0 : n = 0
  · have t3 : ((n : Int) == 0) = true := by simp; omega
    go_enter Try.func7, Try.ntmps7
    go_wp2_with fail
    refine (wakes_true w).mono ?_
    rintro e w1 ⟨rfl, hb1⟩
    go_wp2_with fail
    go_ret
    exact ⟨rfl, hb1⟩
  have t3 : ((n : Int) == 0) = false := by simp; omega
  have t3n : ¬ ((n : Int) = 0) := by omega
  clear hc0
  by_cases hc0 : 4 < n
  · have t4 : decide ((4 : Int) < (n : Int)) = true := by simp; omega
    go_enter Try.func7, Try.ntmps7
    go_wp2_with fail
    refine (wakes_true w).mono ?_
    rintro e w1 ⟨rfl, hb1⟩
    go_wp2_with fail
    go_ret
    exact ⟨rfl, hb1⟩
  have t4 : decide ((4 : Int) < (n : Int)) = false := by simp; omega
  have t4n : n ≤ 4 := by omega
  clear hc0
  have ha0 : Num a := ⟨t0n, t2n.1⟩
  have hc0 : Num c0 := ⟨t1n, t2n.2⟩
  have Hn := Lib.hid (⟨ha0, hc0⟩ : _ ∧ _)
  clear ha0 hc0
  go_enter Try.func7, Try.ntmps7
  have Hes := Lib.hid (⟨hl, hl.len⟩ : _ ∧ _)
  clear hl
  go_wp2_with fail
  go_loopw [7] (fun i wr => ∃ k : Nat, k ≤ n ∧ i = .int .i64 k ∧ allR ((l).take k) = true ∧ Below w.heap.size w wr) (fun i _ => (n) - (intOf i).toNat)
  case atStart => exact ⟨0, Nat.zero_le _, rfl, rfl, Below.refl _ _⟩
  obtain ⟨k, hk, rfl, hak, hB⟩ := hrel
  have HB := Lib.hid (⟨hB, hak⟩ : _ ∧ _)
  by_cases hlt : k < n
  · obtain ⟨b, off, e, hAe, hbl, he, c0, c1, c2⟩ := (Hes.out.1.on hB hB.size).at_ hlt
    subst hAe
    have HE := Lib.hid he
    clear hB hak he
    cases hre : rightB e
    · go_wp2_with fail
      refine (rright_any e _).mono ?_
      rintro r w1 ⟨rfl, hb1⟩
      rw [hre]
      have H1 := Lib.hid (B0.trans ((HB.out.1.trans (hb1.mono HB.out.1.size)).mono B0.size))
      clear hb1 c0 c1 c2 hre
      go_wp2_with fail
      refine (wakes_true w1).mono ?_
      rintro e w2 ⟨rfl, hb2⟩
      go_wp2_with fail
      go_ret
      exact ⟨rfl, H1.out.trans (hb2.mono H1.out.size)⟩
    · have Hr := Lib.hid hre
      go_wp2_with fail
      refine (rright_any e _).mono ?_
      rintro r w1 ⟨rfl, hb1⟩
      rw [hre]
      have H1 := Lib.hid (HB.out.1.trans (hb1.mono HB.out.1.size))
      clear hb1 c0 c1 c2 hre
      go_wp2_with fail
      go_roundw
      case rel => exact ⟨k + 1, by omega, by go_num, by rw [take_succ HE.out, allR_append, HB.out.2]; simp [allR, Hr.out], H1.out⟩
      case measure => simp [intOf]; omega
  obtain rfl : n = k := by omega
  have ha : allR (l) = true := by have h := HB.out.2; rwa [List.take_of_length_le (by rw [Hes.out.2]; exact Nat.le_refl _)] at h
  replace Hes := Hes.out.1
  have bb := HB.out.1
  clear hlt hk hak hB HB
  replace Hes := Hes.on bb bb.size
  have B1 := B0.trans (bb.mono B0.size)
  clear bb B0
  have hgc : GoodC l := ⟨by rw [HL.out.1]; omega, by rw [HL.out.1]; exact t4n, ha⟩
  obtain ⟨ha1, ha2⟩ := file_none Hn.out.1
  obtain ⟨hc1, hc2⟩ := file_none Hn.out.2
  obtain ⟨qa, hqa⟩ : ∃ q, (headL a).length = q := ⟨_, rfl⟩
  obtain ⟨qc, hqc⟩ : ∃ q, (headL c0).length = q := ⟨_, rfl⟩
  have hqa6 := head_length Hn.out.1
  have hqc6 := head_length Hn.out.2
  rw [hqa] at hqa6
  rw [hqc] at hqc6
  obtain ⟨Lb, hLb⟩ : ∃ L, L = blockL (headE a) l := ⟨_, rfl⟩
  obtain ⟨m, hm⟩ : ∃ m, Lb.length = m := ⟨_, rfl⟩
  have hm8 := block_eight (headE a) hgc (m := m) (by rw [← hLb]; exact hm)
  have hbyt : Byt Lb := by rw [hLb]; exact block_byt (headE_in a) hgc
  obtain ⟨f1, f2, f3, f4, hf4⟩ : ∃ f1 f2 f3 f4, Ga.bytesP (endP (headE a) l) = [f1, f2, f3, f4] := ⟨_, _, _, _, rfl⟩
  have hdrop : Lb.drop (m - 4) = [f1, f2, f3, f4] := by rw [hLb, block_drop _ _ (by rw [← hLb]; exact hm), hf4]
  have hs1 : ScanIs (headL a ++ Lb) a [l] [] ∧ (headL a ++ blksL (headE a) [l]).length = qa + m := by
    have h1 := file_scan Hn.out.1 (cs := [l]) (fun x hx => by obtain rfl := List.mem_singleton.1 hx; exact hgc)
    simp only [blksL, List.append_nil, ← hLb] at h1 ⊢
    exact ⟨h1, by rw [List.length_append, hqa, hm]⟩
  obtain ⟨ds, rr, u, hs2, hu2, hu3, hk4, hbz⟩ := blocks_other (a := a) Hn.out.2 hgc
  rw [← hLb] at hs2
  obtain ⟨kk, hkk⟩ : ∃ k, ds.flatten.length = k := ⟨_, rfl⟩
  rw [hkk] at hk4 hbz
  obtain ⟨bz, hbz2⟩ : ∃ b, decide (headE a = headE c0) = b := ⟨_, rfl⟩
  rw [hbz2] at hbz
  have f4b : Byt [f1, f2, f3, f4] := by rw [← hf4]; exact bytesP_byt (endP_in (headE_in a) l)
  obtain ⟨U, hU⟩ : ∃ U, U = qa + m := ⟨_, rfl⟩
  rw [← hU] at hs1
  have hU9 : U ≤ 1000 := by omega
  have HP := Lib.hid (⟨hgc, ha1, ha2, hc1, hc2, hqa, hqc, hLb, hm, hbyt, hf4, hdrop, hs1, hs2, hu2, hkk, hbz2, f4b⟩ : _ ∧ _ ∧ _ ∧ _ ∧ _ ∧ _ ∧ _ ∧ _ ∧ _ ∧ _ ∧ _ ∧ _ ∧ _ ∧ _ ∧ _ ∧ _ ∧ _ ∧ _)
  have hkz : decide ((0 : Int) < (kk : Int)) = bz := by rw [← hbz]; simp
  clear hgc ha1 ha2 hc1 hc2 hqa hqc hLb hm hbyt hf4 hdrop hs1 hs2 hu2 hkk hbz2 f4b ha t0 t1 t2 t3 t3n t4 hU
  go_wp2_with fail
  refine (file_any a none 0 0 [] wr Row.nil (by omega) (by omega)).mono ?_
  intro e w2 hh
  obtain ⟨A1, c1, rfl, hc1, r1, -, bb⟩ := hh.out HP.out.2.1 HP.out.2.2.2.2.2.1
  clear hh
  replace Hes := Hes.on bb bb.size
  have B2 := B1.trans (bb.mono B1.size)
  clear bb B1
  go_wp2_with fail
  refine (file_any c0 none 0 0 [] w2 Row.nil (by omega) (by omega)).mono ?_
  intro e w3 hh
  obtain ⟨A2, c2, rfl, hc2, r2, -, bb⟩ := hh.out HP.out.2.2.2.1 HP.out.2.2.2.2.2.2.1
  clear hh
  replace Hes := Hes.on bb bb.size
  replace r1 := r1.on bb bb.size
  have B3 := B2.trans (bb.mono B2.size)
  clear bb B2
  go_wp2_with fail
  refine (end_any A1 qa c1 (headL a) w3 r1 (head_byt Hn.out.1) hc1 (by omega)).mono ?_
  intro e w4 hh
  obtain ⟨xa, ya, rfl, hpa, bb⟩ := hh.yes HP.out.2.2.1
  clear hh
  replace Hes := Hes.on bb bb.size
  replace r1 := r1.on bb bb.size
  replace r2 := r2.on bb bb.size
  have B4 := B3.trans (bb.mono B3.size)
  clear bb B3
  go_wp2_with fail
  refine (end_any A2 qc c2 (headL c0) w4 r2 (head_byt Hn.out.2) hc2 (by omega)).mono ?_
  intro e w5 hh
  obtain ⟨xc, yc, rfl, hpc, bb⟩ := hh.yes HP.out.2.2.2.2.1
  clear hh
  replace Hes := Hes.on bb bb.size
  replace r1 := r1.on bb bb.size
  replace r2 := r2.on bb bb.size
  have B5 := B4.trans (bb.mono B4.size)
  clear bb B4
  have hord := hpa.same hpc
  rw [HP.out.2.2.2.2.2.2.2.2.2.2.2.2.2.2.2.2.1] at hord
  have Hpp := Lib.hid (⟨hpa, hpc⟩ : _ ∧ _)
  clear hpa hpc
  go_wp2_with fail
  refine (block_any A n c l w5 (.inl Hpp.out.1) Hes (by omega)).mono ?_
  rintro e w6 ⟨hbk, bb⟩
  obtain ⟨-, A3, c3, m', xe, ye, rfl, hm', r3, hpe, hmc3⟩ := hbk.resolve_right (fun h => h.1 HP.out.1)
  rw [← HP.out.2.2.2.2.2.2.2.1] at hm' r3
  rw [HP.out.2.2.2.2.2.2.2.2.1] at hm'
  subst hm'
  have Hpe := Lib.hid hpe
  clear hbk hpe
  replace Hes := Hes.on bb bb.size
  replace r1 := r1.on bb bb.size
  replace r2 := r2.on bb bb.size
  have B6 := B5.trans (bb.mono B5.size)
  clear bb B5
  have v1 : decide ((m : Int) < 8) = false := by simp; omega
  have v1' : ¬ ((m : Int) < 8) := by omega
  go_wp2_with fail
  refine (Ga.rbytes_out w6 Hpe.out HP.out.2.2.2.2.2.2.2.2.2.2.1).mono ?_
  intro e w7 hh
  obtain ⟨rfl, bb⟩ := hh
  replace Hes := Hes.on bb bb.size
  replace r1 := r1.on bb bb.size
  replace r2 := r2.on bb bb.size
  replace r3 := r3.on bb bb.size
  have B7 := B6.trans (bb.mono B6.size)
  clear bb B6
  obtain ⟨w8, hw8⟩ : ∃ x, x = w7.alloc (.cells #[.int .u8 f1, .int .u8 f2, .int .u8 f3, .int .u8 f4] 50) := ⟨_, rfl⟩
  obtain ⟨g4, hg4⟩ : ∃ x, x = w7.heap.size := ⟨_, rfl⟩
  have bb : Below w7.heap.size w7 w8 := by rw [hw8]; exact (Below.refl _ _).alloc (Nat.le_refl _) _
  have r4 : Rd w8 w8.heap.size .u8 (some ⟨g4, 0, none⟩) 4 [f1, f2, f3, f4] := by rw [hw8, hg4]; exact Rd.made _ .u8 50 [f1, f2, f3, f4] rfl
  have sg4 : g4 + 1 = w8.heap.size := by rw [hw8, hg4]; simp
  have HG := Lib.hid (⟨hw8, hg4⟩ : _ ∧ _)
  clear hw8 hg4
  go_wp2_with (at_builtin; refine hold ?_)
  rw [← HG.out.1, ← HG.out.2]
  clear HG
  replace Hes := Hes.on bb bb.size
  replace r1 := r1.on bb bb.size
  replace r2 := r2.on bb bb.size
  replace r3 := r3.on bb bb.size
  have B8 := B7.trans (bb.mono B7.size)
  clear bb B7
  refine unhold (wpList_append (.tmp 113) (.tmp 114) 24 Try.underlying24 hi hz0 hz1 hz2 Nu.byte_cells (by decide) (own_emptyG (g := (g4 + 1)) sg4 (Nat.le_refl _)) ((Source.rd r1).alloc _) (by unfold maxLen; omega) (by omega) (by simp) rfl rfl rfl rfl ?_)
  intro va wa La
  obtain ⟨Aa, ca, rfl, hca, owna, ba, na⟩ := La.madeG sg4
  clear La
  go_wp2_with (at_builtin; refine hold ?_)
  refine unhold (wpList_append (.tmp 115) (.tmp 116) 24 Try.underlying24 hi hz0 hz1 hz2 Nu.byte_cells (by decide) owna ((Source.rd r3).on ba) (by unfold maxLen; omega) (by omega) ba.size rfl rfl rfl rfl ?_)
  intro vb wb Lb
  obtain ⟨A5, c5, rfl, hc5, own5, bb, nb⟩ := Longer.more ba ba.size na Lb
  clear Lb owna ba na hca nb
  obtain ⟨w9, hwn⟩ : ∃ W, W = wb := ⟨_, rfl⟩
  subst hwn
  replace Hes := Hes.on bb bb.size
  replace r1 := r1.on bb bb.size
  replace r2 := r2.on bb bb.size
  replace r3 := r3.on bb bb.size
  replace r4 := r4.on bb bb.size
  have B9 := B8.trans (bb.mono B8.size)
  clear bb B8
  have r5 := own_bytes (m := 0) own5
  clear own5
  go_wp2_with fail
  refine (Scan_any A5 (qa + m) c5 (headL a ++ Lb) w9 r5 ((head_byt Hn.out.1).append HP.out.2.2.2.2.2.2.2.2.2.1) hc5 (by omega)).mono ?_
  intro e w10 hh
  obtain ⟨A6, c6, rfl, hc6, s6, bb⟩ := hh.yes HP.out.2.2.2.2.2.2.2.2.2.2.2.2.1.1 (q := n) (by simp only [List.flatten_cons, List.flatten_nil, List.append_nil]; exact HL.out.1) HP.out.2.2.2.2.2.2.2.2.2.2.2.2.1.2
  clear hh
  replace Hes := Hes.on bb bb.size
  replace r1 := r1.on bb bb.size
  replace r2 := r2.on bb bb.size
  replace r3 := r3.on bb bb.size
  replace r4 := r4.on bb bb.size
  replace r5 := r5.on bb bb.size
  have B10 := B9.trans (bb.mono B9.size)
  clear bb B9
  simp only [List.flatten_cons, List.flatten_nil, List.append_nil] at s6
  clear r5
  obtain ⟨w11, hw11⟩ : ∃ x, x = w10.alloc (.cells #[.int .i64 a, .slice A6 n c6, .int .i64 (U : Int)] 36) := ⟨_, rfl⟩
  obtain ⟨z6, hz6⟩ : ∃ x, x = w10.heap.size := ⟨_, rfl⟩
  have bb : Below w10.heap.size w10 w11 := by rw [hw11]; exact (Below.refl _ _).alloc (Nat.le_refl _) _
  have z6b : BoxC w11 z6 a (.slice A6 n c6) (U : Int) := by rw [hw11, hz6]; exact BoxC.new _ _ _ _
  have sz6 : z6 + 1 = w11.heap.size := by rw [hw11, hz6]; simp
  go_wp2_with (at_builtin; refine hold ?_)
  rw [← hw11, ← hz6]
  clear hw11 hz6
  replace Hes := Hes.on bb bb.size
  replace r1 := r1.on bb bb.size
  replace r2 := r2.on bb bb.size
  replace r3 := r3.on bb bb.size
  replace r4 := r4.on bb bb.size
  replace s6 := s6.on bb bb.size
  have B11 := B10.trans (bb.mono B10.size)
  clear bb B10
  refine unhold (wpList_append (.tmp 122) (.tmp 123) 24 Try.underlying24 hi hz0 hz1 hz2 Nu.byte_cells (by decide) (own_emptyG (g := (z6 + 1)) sz6 (Nat.le_refl _)) ((Source.rd r2).alloc _) (by unfold maxLen; omega) (by omega) (by simp) rfl rfl rfl rfl ?_)
  intro va wa La
  obtain ⟨Aa, ca, rfl, hca, owna, ba, na⟩ := La.madeG sz6
  clear La
  go_wp2_with (at_builtin; refine hold ?_)
  refine unhold (wpList_append (.tmp 124) (.tmp 125) 24 Try.underlying24 hi hz0 hz1 hz2 Nu.byte_cells (by decide) owna ((Source.rd r3).on ba) (by unfold maxLen; omega) (by omega) ba.size rfl rfl rfl rfl ?_)
  intro vb wb Lb
  obtain ⟨A7, c7, rfl, hc7, own7, bb, nb⟩ := Longer.more ba ba.size na Lb
  clear Lb owna ba na hca nb
  obtain ⟨w12, hwn⟩ : ∃ W, W = wb := ⟨_, rfl⟩
  subst hwn
  replace Hes := Hes.on bb bb.size
  replace r1 := r1.on bb bb.size
  replace r2 := r2.on bb bb.size
  replace r3 := r3.on bb bb.size
  replace r4 := r4.on bb bb.size
  replace s6 := s6.on bb bb.size
  replace z6b := z6b.below bb
  have B12 := B11.trans (bb.mono B11.size)
  clear bb B11
  have r7 := own_bytes (m := 0) own7
  clear own7
  go_wp2_with fail
  refine (Scan_any A7 (qc + m) c7 (headL c0 ++ Lb) w12 r7 ((head_byt Hn.out.2).append HP.out.2.2.2.2.2.2.2.2.2.1) hc7 (by omega)).mono ?_
  intro e w13 hh
  obtain ⟨A8, c8, rfl, hc8, s8, bb⟩ := hh.yes HP.out.2.2.2.2.2.2.2.2.2.2.2.2.2.1 HP.out.2.2.2.2.2.2.2.2.2.2.2.2.2.2.2.1 HP.out.2.2.2.2.2.2.2.2.2.2.2.2.2.2.1
  clear hh
  replace Hes := Hes.on bb bb.size
  replace r1 := r1.on bb bb.size
  replace r2 := r2.on bb bb.size
  replace r3 := r3.on bb bb.size
  replace r4 := r4.on bb bb.size
  replace s6 := s6.on bb bb.size
  replace z6b := z6b.below bb
  replace r7 := r7.on bb bb.size
  have B13 := B12.trans (bb.mono B12.size)
  clear bb B12
  obtain ⟨w14, hw14⟩ : ∃ x, x = w13.alloc (.cells #[.int .i64 c0, .slice A8 kk c8, .int .i64 (u : Int)] 36) := ⟨_, rfl⟩
  obtain ⟨z8, hz8⟩ : ∃ x, x = w13.heap.size := ⟨_, rfl⟩
  have bb : Below w13.heap.size w13 w14 := by rw [hw14]; exact (Below.refl _ _).alloc (Nat.le_refl _) _
  have z8b : BoxC w14 z8 c0 (.slice A8 kk c8) (u : Int) := by rw [hw14, hz8]; exact BoxC.new _ _ _ _
  have sz8 : z8 + 1 = w14.heap.size := by rw [hw14, hz8]; simp
  go_wp2_with fail
  rw [← hw14, ← hz8]
  clear hw14 hz8
  replace Hes := Hes.on bb bb.size
  replace r1 := r1.on bb bb.size
  replace r2 := r2.on bb bb.size
  replace r3 := r3.on bb bb.size
  replace r4 := r4.on bb bb.size
  replace s6 := s6.on bb bb.size
  replace z6b := z6b.below bb
  replace r7 := r7.on bb bb.size
  replace s8 := s8.on bb bb.size
  have B14 := B13.trans (bb.mono B13.size)
  clear bb B13
  obtain ⟨m4, hm4⟩ : ∃ x, x = m - 4 := ⟨_, rfl⟩
  obtain ⟨A9, hrun9, hcut9⟩ := cut_tail8 Try.underlying24 hi hz1 A3 m c3 m4 (by omega) hmc3
  have r9 := hcut9 r3
  rw [show m - m4 = 4 by omega, show Lb.drop m4 = [f1, f2, f3, f4] by rw [hm4]; exact HP.out.2.2.2.2.2.2.2.2.2.2.2.1] at r9
  rw [show m - m4 = 4 by omega] at hrun9
  obtain ⟨c9, hc9⟩ : ∃ x, x = c3 - m4 := ⟨_, rfl⟩
  rw [← hc9] at hrun9
  have hsub : IntKind.i64.wrap ((m : Int) - 4) = (m4 : Int) := by rw [IntKind.wrap_i64] <;> omega
  have X0 := Lib.hid (show ∀ W, Below w14.heap.size w14 W → BoxC W z6 a (.slice A6 n c6) (U : Int) ∧ BoxC W z8 c0 (.slice A8 kk c8) (u : Int) from fun W hW => ⟨z6b.below hW, z8b.below hW⟩)
  have HX := Lib.hid (⟨s6, Hes, r9, r4, B14⟩ : _ ∧ _ ∧ _ ∧ _ ∧ _)
  clear s6 Hes r9 r4 B14 z6b z8b r1 r2 r3 r7 s8 hcut9 hm4 hc9 v1 v1' hmc3 hm8 hU9 hk4 sz8 hqa6 hqc6 sg4
  have hn9 : n ≤ 1000000000 := by omega
  refine wp_region_held_drew (S := (fun W => Below w14.heap.size w14 W)) (by kernel_rfl) (below_dr (below_d0 _)) (fun hHeld => ?_)
  refine take_at (i := 0) (d := 130) (oi := ?o1) (v := ?v1) ?hi1 ?hd1 (by kernel_rfl) (by kernel_rfl) (by kernel_rfl) ?hw1 ?hy1 ?hq1 (by assumption) ?r1
  case hi1 => (simp only [List.getElem?_toArray, List.getElem?_cons_zero]; rfl)
  case hd1 => rfl
  case hw1 => rfl
  case hy1 => ((intro w hSw; (try dsimp only at hSw); go_simp) <;> (with_reducible rfl))
  case hq1 => exact fun _ _ _ h => h
  simp only [List.set_cons_succ, List.set_cons_zero]
  refine call_at (i := 1) (d := 131) (oi := ?o2) (f := ?f2) (args := ?a2) ?hi2 ?hd2 (by kernel_rfl) ?hw2 ?he2 ?hc2
  case hi2 => (simp only [List.getElem?_toArray, List.getElem?_cons_succ, List.getElem?_cons_zero]; rfl)
  case hd2 => rfl
  case hw2 => rfl
  case he2 => (go_simp; constructor <;> with_reducible rfl)
  refine (Ga.rright_yes _ Hpe.out).mono ?_
  rintro r wv ⟨rfl, rfl⟩
  refine ⟨_, rfl, hHeld, fun hHeld => ?_⟩
  simp only [List.set_cons_succ, List.set_cons_zero]
  refine take_at (i := 2) (d := 132) (oi := ?o3) (v := ?v3) ?hi3 ?hd3 (by kernel_rfl) (by kernel_rfl) (by kernel_rfl) ?hw3 ?hy3 ?hq3 (by assumption) ?r3
  case hi3 => (simp only [List.getElem?_toArray, List.getElem?_cons_succ, List.getElem?_cons_zero]; rfl)
  case hd3 => rfl
  case hw3 => rfl
  case hy3 => ((intro w hSw; (try dsimp only at hSw); go_simp) <;> (with_reducible rfl))
  case hq3 => exact fun _ _ _ h => h
  simp only [List.set_cons_succ, List.set_cons_zero]
  refine take_at (i := 3) (d := 133) (oi := ?o4) (v := ?v4) ?hi4 ?hd4 (by kernel_rfl) (by kernel_rfl) (by kernel_rfl) ?hw4 ?hy4 ?hq4 (by assumption) ?r4
  case hi4 => (simp only [List.getElem?_toArray, List.getElem?_cons_succ, List.getElem?_cons_zero]; rfl)
  case hd4 => rfl
  case hw4 => rfl
  case hy4 => ((intro w hSw; (try dsimp only at hSw); go_simp) <;> (with_reducible rfl))
  case hq4 => exact fun _ _ _ h => h
  simp only [List.set_cons_succ, List.set_cons_zero]
  refine take_at (i := 4) (d := 134) (oi := ?o5) (v := ?v5) ?hi5 ?hd5 (by kernel_rfl) (by kernel_rfl) (by kernel_rfl) ?hw5 ?hy5 ?hq5 (by assumption) ?r5
  case hi5 => (simp only [List.getElem?_toArray, List.getElem?_cons_succ, List.getElem?_cons_zero]; rfl)
  case hd5 => rfl
  case hw5 => rfl
  case hy5 => ((intro w hSw; (try dsimp only at hSw); go_simp) <;> (with_reducible rfl))
  case hq5 => exact fun _ _ _ h => h
  simp only [List.set_cons_succ, List.set_cons_zero]
  refine take_at (i := 5) (d := 135) (oi := ?o6) (v := ?v6) ?hi6 ?hd6 (by kernel_rfl) (by kernel_rfl) (by kernel_rfl) ?hw6 ?hy6 ?hq6 (by assumption) ?r6
  case hi6 => (simp only [List.getElem?_toArray, List.getElem?_cons_succ, List.getElem?_cons_zero]; rfl)
  case hd6 => rfl
  case hw6 => rfl
  case hy6 => ((intro w hSw; (try dsimp only at hSw); go_simp) <;> (with_reducible rfl))
  case hq6 => exact fun _ _ _ h => h
  simp only [List.set_cons_succ, List.set_cons_zero]
  refine take_at (i := 6) (d := 136) (oi := ?o7) (v := ?v7) ?hi7 ?hd7 (by kernel_rfl) (by kernel_rfl) (by kernel_rfl) ?hw7 ?hy7 ?hq7 (by assumption) ?r7
  case hi7 => (simp only [List.getElem?_toArray, List.getElem?_cons_succ, List.getElem?_cons_zero]; rfl)
  case hd7 => rfl
  case hw7 => rfl
  case hy7 => ((intro w hSw; (try dsimp only at hSw); go_simp) <;> (with_reducible rfl))
  case hq7 => exact fun _ _ _ h => h
  simp only [List.set_cons_succ, List.set_cons_zero]
  refine take_at (i := 7) (d := 137) (oi := ?o8) (v := ?v8) ?hi8 ?hd8 (by kernel_rfl) (by kernel_rfl) (by kernel_rfl) ?hw8 ?hy8 ?hq8 (by assumption) ?r8
  case hi8 => (simp only [List.getElem?_toArray, List.getElem?_cons_succ, List.getElem?_cons_zero]; rfl)
  case hd8 => rfl
  case hw8 => rfl
  case hy8 => ((intro w hSw; (try dsimp only at hSw); go_simp) <;> (with_reducible rfl))
  case hq8 => exact fun _ _ _ h => h
  simp only [List.set_cons_succ, List.set_cons_zero]
  refine take_at (i := 8) (d := 138) (oi := ?o9) (v := ?v9) ?hi9 ?hd9 (by kernel_rfl) (by kernel_rfl) (by kernel_rfl) ?hw9 ?hy9 ?hq9 (by assumption) ?r9
  case hi9 => (simp only [List.getElem?_toArray, List.getElem?_cons_succ, List.getElem?_cons_zero]; rfl)
  case hd9 => rfl
  case hw9 => rfl
  case hy9 => ((intro w hSw; (try dsimp only at hSw); go_simp) <;> (with_reducible rfl))
  case hq9 => exact fun _ _ _ h => h
  simp only [List.set_cons_succ, List.set_cons_zero]
  refine call_at (i := 9) (d := 139) (oi := ?o10) (f := ?f10) (args := ?a10) ?hi10 ?hd10 (by kernel_rfl) ?hw10 ?he10 ?hc10
  case hi10 => (simp only [List.getElem?_toArray, List.getElem?_cons_succ, List.getElem?_cons_zero]; rfl)
  case hd10 => rfl
  case hw10 => rfl
  case he10 => (go_simp; constructor <;> with_reducible rfl)
  have sm := same_any A9 (some ⟨g4, 0, none⟩) 4 4 c9 4 [f1, f2, f3, f4] [f1, f2, f3, f4] _ (HX.out.2.2.1.on hHeld hHeld.size) (HX.out.2.2.2.1.on hHeld hHeld.size) HP.out.2.2.2.2.2.2.2.2.2.2.2.2.2.2.2.2.2 HP.out.2.2.2.2.2.2.2.2.2.2.2.2.2.2.2.2.2
  rw [show eqB [f1, f2, f3, f4] [f1, f2, f3, f4] = true from decide_eq_true rfl] at sm
  refine sm.mono ?_
  rintro r wv ⟨rfl, rfl⟩
  clear sm
  refine ⟨_, rfl, hHeld, fun hHeld => ?_⟩
  simp only [List.set_cons_succ, List.set_cons_zero]
  refine take_at (i := 10) (d := 140) (oi := ?o11) (v := ?v11) ?hi11 ?hd11 (by kernel_rfl) (by kernel_rfl) (by kernel_rfl) ?hw11 ?hy11 ?hq11 (by assumption) ?r11
  case hi11 => (simp only [List.getElem?_toArray, List.getElem?_cons_succ, List.getElem?_cons_zero]; rfl)
  case hd11 => rfl
  case hw11 => rfl
  case hy11 => ((intro w hSw; (try dsimp only at hSw); go_simp) <;> (with_reducible rfl))
  case hq11 => exact fun _ _ _ h => h
  simp only [List.set_cons_succ, List.set_cons_zero]
  refine take_at (i := 11) (d := 141) (oi := ?o12) (v := ?v12) ?hi12 ?hd12 (by kernel_rfl) (by kernel_rfl) (by kernel_rfl) ?hw12 ?hy12 ?hq12 (by assumption) ?r12
  case hi12 => (simp only [List.getElem?_toArray, List.getElem?_cons_succ, List.getElem?_cons_zero]; rfl)
  case hd12 => rfl
  case hw12 => rfl
  case hy12 => ((intro w hSw; (try dsimp only at hSw); go_simp) <;> (with_reducible rfl))
  case hq12 => exact fun _ _ _ h => h
  simp only [List.set_cons_succ, List.set_cons_zero]
  refine take_at (i := 12) (d := 142) (oi := ?o13) (v := ?v13) ?hi13 ?hd13 (by kernel_rfl) (by kernel_rfl) (by kernel_rfl) ?hw13 ?hy13 ?hq13 (by assumption) ?r13
  case hi13 => (simp only [List.getElem?_toArray, List.getElem?_cons_succ, List.getElem?_cons_zero]; rfl)
  case hd13 => rfl
  case hw13 => rfl
  case hy13 => ((intro w hSw; (try dsimp only at hSw); go_simp) <;> (with_reducible rfl))
  case hq13 => exact fun _ _ _ h => h
  simp only [List.set_cons_succ, List.set_cons_zero]
  refine take_at (i := 13) (d := 143) (oi := ?o14) (v := ?v14) ?hi14 ?hd14 (by kernel_rfl) (by kernel_rfl) (by kernel_rfl) ?hw14 ?hy14 ?hq14 (by assumption) ?r14
  case hi14 => (simp only [List.getElem?_toArray, List.getElem?_cons_succ, List.getElem?_cons_zero]; rfl)
  case hd14 => rfl
  case hw14 => rfl
  case hy14 => ((intro w hSw; (try dsimp only at hSw); go_simp) <;> (with_reducible rfl))
  case hq14 => exact fun _ _ _ h => h
  simp only [List.set_cons_succ, List.set_cons_zero]
  refine take_at (i := 14) (d := 144) (oi := ?o15) (v := ?v15) ?hi15 ?hd15 (by kernel_rfl) (by kernel_rfl) (by kernel_rfl) ?hw15 ?hy15 ?hq15 (by assumption) ?r15
  case hi15 => (simp only [List.getElem?_toArray, List.getElem?_cons_succ, List.getElem?_cons_zero]; rfl)
  case hd15 => rfl
  case hw15 => rfl
  case hy15 => ((intro w hSw; (try dsimp only at hSw); go_simp) <;> (with_reducible rfl))
  case hq15 => exact fun _ _ _ h => h
  simp only [List.set_cons_succ, List.set_cons_zero]
  refine take_at (i := 15) (d := 145) (oi := ?o16) (v := ?v16) ?hi16 ?hd16 (by kernel_rfl) (by kernel_rfl) (by kernel_rfl) ?hw16 ?hy16 ?hq16 (by assumption) ?r16
  case hi16 => (simp only [List.getElem?_toArray, List.getElem?_cons_succ, List.getElem?_cons_zero]; rfl)
  case hd16 => rfl
  case hw16 => rfl
  case hy16 => ((intro w hSw; (try dsimp only at hSw); go_simp) <;> (with_reducible rfl))
  case hq16 => exact fun _ _ _ h => h
  simp only [List.set_cons_succ, List.set_cons_zero]
  refine take_at (i := 16) (d := 146) (oi := ?o17) (v := ?v17) ?hi17 ?hd17 (by kernel_rfl) (by kernel_rfl) (by kernel_rfl) ?hw17 ?hy17 ?hq17 (by assumption) ?r17
  case hi17 => (simp only [List.getElem?_toArray, List.getElem?_cons_succ, List.getElem?_cons_zero]; rfl)
  case hd17 => rfl
  case hw17 => rfl
  case hy17 => ((intro w hSw; (try dsimp only at hSw); go_simp) <;> (with_reducible rfl))
  case hq17 => exact fun _ _ _ h => h
  simp only [List.set_cons_succ, List.set_cons_zero]
  refine take_at (i := 17) (d := 147) (oi := ?o18) (v := ?v18) ?hi18 ?hd18 (by kernel_rfl) (by kernel_rfl) (by kernel_rfl) ?hw18 ?hy18 ?hq18 (by assumption) ?r18
  case hi18 => (simp only [List.getElem?_toArray, List.getElem?_cons_succ, List.getElem?_cons_zero]; rfl)
  case hd18 => rfl
  case hw18 => rfl
  case hy18 => ((intro w hSw; (try dsimp only at hSw); go_simp) <;> (with_reducible rfl))
  case hq18 => exact fun _ _ _ h => h
  simp only [List.set_cons_succ, List.set_cons_zero]
  refine take_at (i := 18) (d := 148) (oi := ?o19) (v := ?v19) ?hi19 ?hd19 (by kernel_rfl) (by kernel_rfl) (by kernel_rfl) ?hw19 ?hy19 ?hq19 (by assumption) ?r19
  case hi19 => (simp only [List.getElem?_toArray, List.getElem?_cons_succ, List.getElem?_cons_zero]; rfl)
  case hd19 => rfl
  case hw19 => rfl
  case hy19 => ((intro w hSw; (try dsimp only at hSw); go_simp) <;> (with_reducible rfl))
  case hq19 => exact fun _ _ _ h => h
  simp only [List.set_cons_succ, List.set_cons_zero]
  refine take_at (i := 19) (d := 149) (oi := ?o20) (v := ?v20) ?hi20 ?hd20 (by kernel_rfl) (by kernel_rfl) (by kernel_rfl) ?hw20 ?hy20 ?hq20 (by assumption) ?r20
  case hi20 => (simp only [List.getElem?_toArray, List.getElem?_cons_succ, List.getElem?_cons_zero]; rfl)
  case hd20 => rfl
  case hw20 => rfl
  case hy20 => ((intro w hSw; (try dsimp only at hSw); go_simp) <;> (with_reducible rfl))
  case hq20 => exact fun _ _ _ h => h
  simp only [List.set_cons_succ, List.set_cons_zero]
  refine take_at (i := 20) (d := 150) (oi := ?o21) (v := ?v21) ?hi21 ?hd21 (by kernel_rfl) (by kernel_rfl) (by kernel_rfl) ?hw21 ?hy21 ?hq21 (by assumption) ?r21
  case hi21 => (simp only [List.getElem?_toArray, List.getElem?_cons_succ, List.getElem?_cons_zero]; rfl)
  case hd21 => rfl
  case hw21 => rfl
  case hy21 => ((intro w hSw; (try dsimp only at hSw); go_simp) <;> (with_reducible rfl))
  case hq21 => exact fun _ _ _ h => h
  simp only [List.set_cons_succ, List.set_cons_zero]
  refine take_at (i := 21) (d := 151) (oi := ?o22) (v := ?v22) ?hi22 ?hd22 (by kernel_rfl) (by kernel_rfl) (by kernel_rfl) ?hw22 ?hy22 ?hq22 (by assumption) ?r22
  case hi22 => (simp only [List.getElem?_toArray, List.getElem?_cons_succ, List.getElem?_cons_zero]; rfl)
  case hd22 => rfl
  case hw22 => rfl
  case hy22 => ((intro w hSw; (try dsimp only at hSw); obtain ⟨⟨k0, k1, k2⟩, ⟨m0, m1, m2⟩⟩ := And.intro (X0.out _ hSw).1.cells (X0.out _ hSw).2.cells; go_simp) <;> (with_reducible rfl))
  case hq22 => exact fun _ _ _ h => h
  simp only [List.set_cons_succ, List.set_cons_zero]
  refine take_at (i := 22) (d := 152) (oi := ?o23) (v := ?v23) ?hi23 ?hd23 (by kernel_rfl) (by kernel_rfl) (by kernel_rfl) ?hw23 ?hy23 ?hq23 (by assumption) ?r23
  case hi23 => (simp only [List.getElem?_toArray, List.getElem?_cons_succ, List.getElem?_cons_zero]; rfl)
  case hd23 => rfl
  case hw23 => rfl
  case hy23 => ((intro w hSw; (try dsimp only at hSw); go_simp) <;> (with_reducible rfl))
  case hq23 => exact fun _ _ _ h => h
  simp only [List.set_cons_succ, List.set_cons_zero]
  refine call_at (i := 23) (d := 153) (oi := ?o24) (f := ?f24) (args := ?a24) ?hi24 ?hd24 (by kernel_rfl) ?hw24 ?he24 ?hc24
  case hi24 => (simp only [List.getElem?_toArray, List.getElem?_cons_succ, List.getElem?_cons_zero]; rfl)
  case hd24 => rfl
  case hw24 => rfl
  case he24 => (go_simp; constructor <;> with_reducible rfl)
  have em := ents_any A6 A n n c6 c l l _ (HX.out.1.on hHeld hHeld.size) (HX.out.2.1.on hHeld hHeld.size) hn9 hn9
  rw [eqE_true rfl] at em
  refine em.mono ?_
  rintro r wv ⟨rfl, hb1⟩
  have kb : Below w14.heap.size w14 wv := hHeld.trans (hb1.mono hHeld.size)
  clear em
  refine ⟨_, rfl, kb, fun hHeld => ?_⟩
  simp only [List.set_cons_succ, List.set_cons_zero]
  refine take_at (i := 24) (d := 154) (oi := ?o25) (v := ?v25) ?hi25 ?hd25 (by kernel_rfl) (by kernel_rfl) (by kernel_rfl) ?hw25 ?hy25 ?hq25 (by assumption) ?r25
  case hi25 => (simp only [List.getElem?_toArray, List.getElem?_cons_succ, List.getElem?_cons_zero]; rfl)
  case hd25 => rfl
  case hw25 => rfl
  case hy25 => ((intro w hSw; (try dsimp only at hSw); go_simp) <;> (with_reducible rfl))
  case hq25 => exact fun _ _ _ h => h
  simp only [List.set_cons_succ, List.set_cons_zero]
  refine take_at (i := 25) (d := 155) (oi := ?o26) (v := ?v26) ?hi26 ?hd26 (by kernel_rfl) (by kernel_rfl) (by kernel_rfl) ?hw26 ?hy26 ?hq26 (by assumption) ?r26
  case hi26 => (simp only [List.getElem?_toArray, List.getElem?_cons_succ, List.getElem?_cons_zero]; rfl)
  case hd26 => rfl
  case hw26 => rfl
  case hy26 => ((intro w hSw; (try dsimp only at hSw); go_simp) <;> (with_reducible rfl))
  case hq26 => exact fun _ _ _ h => h
  simp only [List.set_cons_succ, List.set_cons_zero]
  refine take_at (i := 26) (d := 156) (oi := ?o27) (v := ?v27) ?hi27 ?hd27 (by kernel_rfl) (by kernel_rfl) (by kernel_rfl) ?hw27 ?hy27 ?hq27 (by assumption) ?r27
  case hi27 => (simp only [List.getElem?_toArray, List.getElem?_cons_succ, List.getElem?_cons_zero]; rfl)
  case hd27 => rfl
  case hw27 => rfl
  case hy27 => ((intro w hSw; (try dsimp only at hSw); go_simp) <;> (with_reducible rfl))
  case hq27 => exact fun _ _ _ h => h
  simp only [List.set_cons_succ, List.set_cons_zero]
  refine take_at (i := 27) (d := 157) (oi := ?o28) (v := ?v28) ?hi28 ?hd28 (by kernel_rfl) (by kernel_rfl) (by kernel_rfl) ?hw28 ?hy28 ?hq28 (by assumption) ?r28
  case hi28 => (simp only [List.getElem?_toArray, List.getElem?_cons_succ, List.getElem?_cons_zero]; rfl)
  case hd28 => rfl
  case hw28 => rfl
  case hy28 => ((intro w hSw; (try dsimp only at hSw); obtain ⟨⟨k0, k1, k2⟩, ⟨m0, m1, m2⟩⟩ := And.intro (X0.out _ hSw).1.cells (X0.out _ hSw).2.cells; go_simp) <;> (with_reducible rfl))
  case hq28 => exact fun _ _ _ h => h
  simp only [List.set_cons_succ, List.set_cons_zero]
  refine take_at (i := 28) (d := 158) (oi := ?o29) (v := ?v29) ?hi29 ?hd29 (by kernel_rfl) (by kernel_rfl) (by kernel_rfl) ?hw29 ?hy29 ?hq29 (by assumption) ?r29
  case hi29 => (simp only [List.getElem?_toArray, List.getElem?_cons_succ, List.getElem?_cons_zero]; rfl)
  case hd29 => rfl
  case hw29 => rfl
  case hy29 => ((intro w hSw; (try dsimp only at hSw); go_simp) <;> (with_reducible rfl))
  case hq29 => exact fun _ _ _ h => h
  simp only [List.set_cons_succ, List.set_cons_zero]
  refine take_at (i := 29) (d := 159) (oi := ?o30) (v := ?v30) ?hi30 ?hd30 (by kernel_rfl) (by kernel_rfl) (by kernel_rfl) ?hw30 ?hy30 ?hq30 (by assumption) ?r30
  case hi30 => (simp only [List.getElem?_toArray, List.getElem?_cons_succ, List.getElem?_cons_zero]; rfl)
  case hd30 => rfl
  case hw30 => rfl
  case hy30 => ((intro w hSw; (try dsimp only at hSw); go_simp) <;> (with_reducible rfl))
  case hq30 => exact fun _ _ _ h => h
  simp only [List.set_cons_succ, List.set_cons_zero]
  refine take_at (i := 30) (d := 160) (oi := ?o31) (v := ?v31) ?hi31 ?hd31 (by kernel_rfl) (by kernel_rfl) (by kernel_rfl) ?hw31 ?hy31 ?hq31 (by assumption) ?r31
  case hi31 => (simp only [List.getElem?_toArray, List.getElem?_cons_succ, List.getElem?_cons_zero]; rfl)
  case hd31 => rfl
  case hw31 => rfl
  case hy31 => ((intro w hSw; (try dsimp only at hSw); go_simp) <;> (with_reducible rfl))
  case hq31 => exact fun _ _ _ h => h
  simp only [List.set_cons_succ, List.set_cons_zero]
  refine take_at (i := 31) (d := 161) (oi := ?o32) (v := ?v32) ?hi32 ?hd32 (by kernel_rfl) (by kernel_rfl) (by kernel_rfl) ?hw32 ?hy32 ?hq32 (by assumption) ?r32
  case hi32 => (simp only [List.getElem?_toArray, List.getElem?_cons_succ, List.getElem?_cons_zero]; rfl)
  case hd32 => rfl
  case hw32 => rfl
  case hy32 => ((intro w hSw; (try dsimp only at hSw); go_simp) <;> (with_reducible rfl))
  case hq32 => exact fun _ _ _ h => h
  simp only [List.set_cons_succ, List.set_cons_zero]
  refine take_at (i := 32) (d := 162) (oi := ?o33) (v := ?v33) ?hi33 ?hd33 (by kernel_rfl) (by kernel_rfl) (by kernel_rfl) ?hw33 ?hy33 ?hq33 (by assumption) ?r33
  case hi33 => (simp only [List.getElem?_toArray, List.getElem?_cons_succ, List.getElem?_cons_zero]; rfl)
  case hd33 => rfl
  case hw33 => rfl
  case hy33 => ((intro w hSw; (try dsimp only at hSw); go_simp) <;> (with_reducible rfl))
  case hq33 => exact fun _ _ _ h => h
  simp only [List.set_cons_succ, List.set_cons_zero]
  refine take_at (i := 33) (d := 163) (oi := ?o34) (v := ?v34) ?hi34 ?hd34 (by kernel_rfl) (by kernel_rfl) (by kernel_rfl) ?hw34 ?hy34 ?hq34 (by assumption) ?r34
  case hi34 => (simp only [List.getElem?_toArray, List.getElem?_cons_succ, List.getElem?_cons_zero]; rfl)
  case hd34 => rfl
  case hw34 => rfl
  case hy34 => ((intro w hSw; (try dsimp only at hSw); go_simp) <;> (with_reducible rfl))
  case hq34 => exact fun _ _ _ h => h
  simp only [List.set_cons_succ, List.set_cons_zero]
  refine take_at (i := 34) (d := 164) (oi := ?o35) (v := ?v35) ?hi35 ?hd35 (by kernel_rfl) (by kernel_rfl) (by kernel_rfl) ?hw35 ?hy35 ?hq35 (by assumption) ?r35
  case hi35 => (simp only [List.getElem?_toArray, List.getElem?_cons_succ, List.getElem?_cons_zero]; rfl)
  case hd35 => rfl
  case hw35 => rfl
  case hy35 => ((intro w hSw; (try dsimp only at hSw); go_simp) <;> (with_reducible rfl))
  case hq35 => exact fun _ _ _ h => h
  simp only [List.set_cons_succ, List.set_cons_zero]
  refine take_at (i := 35) (d := 165) (oi := ?o36) (v := ?v36) ?hi36 ?hd36 (by kernel_rfl) (by kernel_rfl) (by kernel_rfl) ?hw36 ?hy36 ?hq36 (by assumption) ?r36
  case hi36 => (simp only [List.getElem?_toArray, List.getElem?_cons_succ, List.getElem?_cons_zero]; rfl)
  case hd36 => rfl
  case hw36 => rfl
  case hy36 => ((intro w hSw; (try dsimp only at hSw); go_simp) <;> (with_reducible rfl))
  case hq36 => exact fun _ _ _ h => h
  simp only [List.set_cons_succ, List.set_cons_zero]
  refine call_at (i := 36) (d := 166) (oi := ?o37) (f := ?f37) (args := ?a37) ?hi37 ?hd37 (by kernel_rfl) ?hw37 ?he37 ?hc37
  case hi37 => (simp only [List.getElem?_toArray, List.getElem?_cons_succ, List.getElem?_cons_zero]; rfl)
  case hd37 => rfl
  case hw37 => rfl
  case he37 => (go_simp; constructor <;> with_reducible rfl)
  refine (wakes_true _).mono ?_
  rintro r wv2 ⟨rfl, hb2⟩
  have kb2 : Below w14.heap.size w14 wv2 := hHeld.trans (hb2.mono hHeld.size)
  refine ⟨_, rfl, kb2, fun hHeld => ?_⟩
  simp only [List.set_cons_succ, List.set_cons_zero]
  refine take_at (i := 37) (d := 167) (oi := ?o38) (v := ?v38) ?hi38 ?hd38 (by kernel_rfl) (by kernel_rfl) (by kernel_rfl) ?hw38 ?hy38 ?hq38 (by assumption) ?r38
  case hi38 => (simp only [List.getElem?_toArray, List.getElem?_cons_succ, List.getElem?_cons_zero]; rfl)
  case hd38 => rfl
  case hw38 => rfl
  case hy38 => ((intro w hSw; (try dsimp only at hSw); go_simp) <;> (with_reducible rfl))
  case hq38 => exact fun _ _ _ h => h
  simp only [List.set_cons_succ, List.set_cons_zero]
  refine take_at (i := 38) (d := 6) (oi := ?o39) (v := ?v39) ?hi39 ?hd39 (by kernel_rfl) (by kernel_rfl) (by kernel_rfl) ?hw39 ?hy39 ?hq39 (by assumption) ?r39
  case hi39 => (simp only [List.getElem?_toArray, List.getElem?_cons_succ, List.getElem?_cons_zero]; rfl)
  case hd39 => rfl
  case hw39 => rfl
  case hy39 => ((intro w hSw; (try dsimp only at hSw); go_simp) <;> (with_reducible rfl))
  case hq39 => exact fun _ _ _ h => h
  simp only [List.set_cons_succ, List.set_cons_zero]
  refine wpAnyH_done (by kernel_rfl) ?_ _
  go_wp2_with fail
  go_ret
  exact ⟨rfl, HX.out.2.2.2.2.trans (hHeld.mono HX.out.2.2.2.2.size)⟩


end Go.Proofs.Ytlojkbmoaifkaaa
