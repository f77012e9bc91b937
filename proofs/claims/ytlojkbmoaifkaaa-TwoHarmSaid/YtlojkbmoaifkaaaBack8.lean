/-
  TwoBack: it returns true.
-/
import Derived.Test.YtlojkbmoaifkaaaWakes8
namespace Go.Proofs.Ytlojkbmoaifkaaa
open Go.RowKit
set_option linter.unusedVariables false

theorem cut_firstE {P : Program} {t e : TypeId} {i : TypeInfo} (ht : P.underlying t = some (.slice e)) (hi : P.info? e = some i) (A : Option Addr) (n c k : Nat) (hk : k ≤ c) (W : World) :
    (Instr.slice t (.slice A n c) none (some (.int .i64 (k : Int))) none).run P W = .ok (.slice A k c) W := by
  have he : P.elem t = e := by simp [Program.elem, ht]
  have hu : P.underlying t = some (.slice (P.elem t)) := by rw [he]; exact ht
  rw [run_slice_h W t A n c hu .i64 (k : Int) (by omega) (by omega), he]
  simp [sizeOf, run_typeInfo, hi, sliced, go_sem]
theorem EndT.yes {w w' : World} {b : List Int} {e : Ending} {z : Int × Int} (h : EndT w b e w') (hz : EndIs b z) : ∃ x y, e = .returned (.tuple #[.complex .f64 x y, .int .i64 0]) ∧ Ga.Pt x y z ∧ Below w.heap.size w w' := by
  obtain ⟨⟨z', x, y, h1, rfl, h2⟩ | ⟨h1, _⟩, hb⟩ := h
  · obtain rfl := hz.same h1
    exact ⟨x, y, rfl, h2, hb⟩
  · exact absurd hz (h1 z)
/-- What TwoBack asks. -/
theorem back_bytes {f : Int} {l m : List EnP} {be : List Int} {n n2 n3 : Nat} (hf : Num f) (ha : allR (l ++ m) = true) (hl : l.length = n) (hm : m.length = n2) (hb : be.length = n3) (h1 : n ≤ 20) (h2 : n2 ≤ 20) (h3 : n3 ≤ 40) :
    ∃ (B L : List Int) (q q2 u : Nat) (cs ds : List (List EnP)) (r : List Int) (k : Nat), fileP f l = (B, 0) ∧ B.length = q ∧ L.length = q2 ∧ q ≤ 100000 ∧ q2 ≤ 100000 ∧ Byt B ∧ Byt L ∧
      (∃ z, EndIs B z ∧ L = blksL z (chunks 4 m)) ∧ (cs.flatten = l ++ m ∧ ScanIs (B ++ L) f cs [] ∧ (headL f ++ blksL (headE f) cs).length = q + q2 ∧ (∃ z, EndIs (B ++ L) z)) ∧
      (ScanIs ((B ++ L) ++ be) f ds r ∧ (headL f ++ blksL (headE f) ds).length = u ∧ ds.flatten.length = k ∧ q + q2 ≤ u ∧ u ≤ 1000000 ∧ n + n2 ≤ k ∧ k ≤ 1000000 ∧ ds.flatten.take (n + n2) = l ++ m ∧ (u = q + q2 → k = n + n2)) := by
  have hal : allR l = true ∧ allR m = true := by rw [allR_append, Bool.and_eq_true] at ha; exact ha
  have g1 := chunks_good hal.1
  have g2 := chunks_good hal.2
  have hh := head_length hf
  have c1 := chunks_len4 l
  have c2 := chunks_len4 m
  have l1 := blks_le (p := headE f) g1
  have l2 := blks_le (p := blksE (headE f) (chunks 4 l)) g2
  obtain ⟨ds, r, hd⟩ := blks_cases (blksE (headE f) (chunks 4 l ++ chunks 4 m)) be
  have hfl : (chunks 4 l ++ chunks 4 m).flatten = l ++ m := by rw [List.flatten_append, chunks_flat (by omega), chunks_flat (by omega)]
  have hlen : (l ++ m).length = n + n2 := by rw [List.length_append, hl, hm]
  obtain ⟨x, hx⟩ : ∃ x, (blksL (blksE (headE f) (chunks 4 l ++ chunks 4 m)) ds).length = x := ⟨_, rfl⟩
  have hdl : x ≤ n3 := by
    have := congrArg List.length hd.2.1
    rw [List.length_append, hb, hx] at this
    omega
  have hd4 := flat_le hd.1
  have hdc := blks_ge (p := blksE (headE f) (chunks 4 l ++ chunks 4 m)) hd.1
  rw [hx] at hdc
  obtain ⟨B, hB⟩ : ∃ B, headL f ++ blksL (headE f) (chunks 4 l) = B := ⟨_, rfl⟩
  obtain ⟨L, hL⟩ : ∃ L, blksL (blksE (headE f) (chunks 4 l)) (chunks 4 m) = L := ⟨_, rfl⟩
  have hBL : headL f ++ blksL (headE f) (chunks 4 l ++ chunks 4 m) = B ++ L := by rw [blksL_append, ← List.append_assoc, hB, hL]
  have hu : (headL f ++ blksL (headE f) ((chunks 4 l ++ chunks 4 m) ++ ds)).length = B.length + L.length + x := by
    rw [blksL_append, ← List.append_assoc, hBL, List.length_append, List.length_append, hx]
  have hBl : B.length ≤ 10000 := by rw [← hB, List.length_append]; omega
  have hLl : L.length ≤ 10000 := by rw [← hL]; omega
  have hk : ((chunks 4 l ++ chunks 4 m) ++ ds).flatten.length = n + n2 + ds.flatten.length := by rw [List.flatten_append, hfl, List.length_append, hlen]
  refine ⟨B, L, _, _, _, chunks 4 l ++ chunks 4 m, (chunks 4 l ++ chunks 4 m) ++ ds, r, _, by rw [← hB]; exact fileP_yes hf hal.1, rfl, rfl, by omega, by omega, by rw [← hB]; exact file_byt hf g1, by rw [← hL]; exact blks_byt (blksE_in (headE_in _) _) g2,
    ⟨blksE (headE f) (chunks 4 l), by rw [← hB]; exact file_end hf g1, hL.symm⟩, ⟨hfl, ?_, ?_, ?_⟩, ?_, hu, hk, ?_, ?_, ?_, ?_, ?_, ?_⟩
  · rw [← hBL]
    exact file_scan hf (g1.append g2)
  · rw [hBL, List.length_append]
  · rw [← hBL]
    exact ⟨_, file_end hf (g1.append g2)⟩
  · rw [← hBL]
    exact scan_more hf (g1.append g2) hd
  · omega
  · omega
  · omega
  · omega
  · rw [List.flatten_append, hfl, ← hlen, List.take_left]
  · intro h
    omega

set_option maxRecDepth 100000 in
set_option maxHeartbeats 8000000 in
theorem back_law (first : Int) (A : Option Addr) (n c : Nat) (l : List EnP) (A2 : Option Addr) (n2 c2 : Nat) (m : List EnP) (A3 : Option Addr) (n3 c3 : Nat) (be : List Int) (w : World)
    (hl : Es w w.heap.size A n l) (hnc : n ≤ c) (hm : Es w w.heap.size A2 n2 m) (hnc2 : n2 ≤ c2) (hr : Rd w w.heap.size .u8 A3 n3 be) (hb : Byt be) :
    Calls Try.prog 4 #[.int .i64 first, .slice A n c, .slice A2 n2 c2, .slice A3 n3 c3] w fun e w' => e = .returned (.bool true) ∧ Below w.heap.size w w' := by
  obtain ⟨i0, hi, hz0, hz1, hz2⟩ := info_parts Ga.info_u8
  obtain ⟨j0, hj, hy0, hy1, hy2⟩ := info_partsV info_entry
  have B0 := Below.refl w.heap.size w
  have HL := Lib.hid (⟨hl.len, hm.len, hr.1, hb⟩ : _ ∧ _ ∧ _ ∧ _)
  clear hb
  by_cases hc0 : first < (1 : Int)
  · have t0 : decide (first < (1 : Int)) = true := by simp; omega
    go_enter Try.func4, Try.ntmps4
    go_wp2_with fail
    refine (wakes_true w).mono ?_
    rintro e w1 ⟨rfl, hb1⟩
    go_wp2_with fail
    go_ret
    exact ⟨rfl, hb1⟩
  have t0 : decide (first < (1 : Int)) = false := by simp; omega
  have t0n : (1 : Int) ≤ first := by omega
  clear hc0
  by_cases hc0 : (1073741824 : Int) < first
  · have t1 : decide ((1073741824 : Int) < first) = true := by simp; omega
    go_enter Try.func4, Try.ntmps4
    go_wp2_with fail
    refine (wakes_true w).mono ?_
    rintro e w1 ⟨rfl, hb1⟩
    go_wp2_with fail
    go_ret
    exact ⟨rfl, hb1⟩
  have t1 : decide ((1073741824 : Int) < first) = false := by simp; omega
  have t1n : first ≤ (1073741824 : Int) := by omega
  clear hc0
  by_cases hc0 : 20 < n
  · have t2 : decide ((20 : Int) < (n : Int)) = true := by simp; omega
    go_enter Try.func4, Try.ntmps4
    go_wp2_with fail
    refine (wakes_true w).mono ?_
    rintro e w1 ⟨rfl, hb1⟩
    go_wp2_with fail
    go_ret
    exact ⟨rfl, hb1⟩
  have t2 : decide ((20 : Int) < (n : Int)) = false := by simp; omega
  have t2n : n ≤ 20 := by omega
  clear hc0
  by_cases hc0 : 20 < n2
  · have t3 : decide ((20 : Int) < (n2 : Int)) = true := by simp; omega
    go_enter Try.func4, Try.ntmps4
    go_wp2_with fail
    refine (wakes_true w).mono ?_
    rintro e w1 ⟨rfl, hb1⟩
    go_wp2_with fail
    go_ret
    exact ⟨rfl, hb1⟩
  have t3 : decide ((20 : Int) < (n2 : Int)) = false := by simp; omega
  have t3n : n2 ≤ 20 := by omega
  clear hc0
  by_cases hc0 : 40 < n3
  · have t4 : decide ((40 : Int) < (n3 : Int)) = true := by simp; omega
    go_enter Try.func4, Try.ntmps4
    go_wp2_with fail
    refine (wakes_true w).mono ?_
    rintro e w1 ⟨rfl, hb1⟩
    go_wp2_with fail
    go_ret
    exact ⟨rfl, hb1⟩
  have t4 : decide ((40 : Int) < (n3 : Int)) = false := by simp; omega
  have t4n : n3 ≤ 40 := by omega
  clear hc0
  have hf : Num first := ⟨t0n, t1n⟩
  have Hf := Lib.hid hf
  clear hf
  go_enter Try.func4, Try.ntmps4
  go_wp2_with (at_builtin; refine hold ?_)
  refine unhold (wpList_append (.tmp 42) (.tmp 43) 23 Try.underlying23 hj hy0 hy1 hy2 rfl (by decide) (own_empty w w.heap.size 45 3 (Nat.le_refl _)) ((Source.es hl).alloc _) (by unfold maxLen; omega) (by omega) (by simp) rfl rfl rfl rfl ?_)
  intro va wa La
  obtain ⟨Aa, ca, rfl, hca, owna, ba, na⟩ := La.made
  clear La
  go_wp2_with (at_builtin; refine hold ?_)
  refine unhold (wpList_append (.tmp 44) (.tmp 45) 23 Try.underlying23 hj hy0 hy1 hy2 rfl (by decide) owna ((Source.es hm).on ba) (by unfold maxLen; omega) (by omega) ba.size rfl rfl rfl rfl ?_)
  intro vb wb Lb
  obtain ⟨A4, c4, rfl, hc4, own4, bb, nb⟩ := Longer.more ba ba.size na Lb
  clear Lb owna ba na hca nb
  obtain ⟨w1, hwn⟩ : ∃ W, W = wb := ⟨_, rfl⟩
  subst hwn
  replace hl := hl.on bb bb.size
  replace hm := hm.on bb bb.size
  replace hr := hr.on bb bb.size
  have B1 := B0.trans (bb.mono B0.size)
  clear bb B0
  have es4 := own_ents own4
  clear own4
  obtain ⟨N, hN⟩ : ∃ N, N = n + n2 := ⟨_, rfl⟩
  rw [← hN] at hc4 es4 ⊢
  have hN40 : N ≤ 40 := by omega
  have HN := Lib.hid hN
  clear hN t0 t1 t2 t3 t4
  have Hes := Lib.hid (⟨es4, es4.len⟩ : _ ∧ _)
  clear es4
  go_wp2_with fail
  go_loopw [10] (fun i wr => ∃ k : Nat, k ≤ N ∧ i = .int .i64 k ∧ allR ((l ++ m).take k) = true ∧ Below w1.heap.size w1 wr) (fun i _ => (N) - (intOf i).toNat)
  case atStart => exact ⟨0, Nat.zero_le _, rfl, rfl, Below.refl _ _⟩
  obtain ⟨k, hk, rfl, hak, hB⟩ := hrel
  have HB := Lib.hid (⟨hB, hak⟩ : _ ∧ _)
  by_cases hlt : k < N
  · obtain ⟨b, off, e, hAe, hbl, he, c0, c1, c2⟩ := (Hes.out.1.on hB hB.size).at_ hlt
    subst hAe
    have HE := Lib.hid he
    clear hB hak he
    cases hre : rightB e
    · go_wp2_with fail
      refine (rright_any e _).mono ?_
      rintro r w1 ⟨rfl, hb1⟩
      rw [hre]
      have H1 := Lib.hid (B1.trans ((HB.out.1.trans (hb1.mono HB.out.1.size)).mono B1.size))
      clear hb1 c0 c1 c2 hre
      go_wp2_with fail
      refine (wakes_true w1).mono ?_
      rintro e w2 ⟨rfl, hb2⟩
      go_wp2_with fail
      go_ret
      exact ⟨rfl, H1.out.trans (hb2.mono H1.out.size)⟩
    · have Hr := Lib.hid hre
      go_wp2_with fail
      refine (rright_any e _).mono ?_
      rintro r w1 ⟨rfl, hb1⟩
      rw [hre]
      have H1 := Lib.hid (HB.out.1.trans (hb1.mono HB.out.1.size))
      clear hb1 c0 c1 c2 hre
      go_wp2_with fail
      go_roundw
      case rel => exact ⟨k + 1, by omega, by go_num, by rw [take_succ HE.out, allR_append, HB.out.2]; simp [allR, Hr.out], H1.out⟩
      case measure => simp [intOf]; omega
  obtain rfl : N = k := by omega
  have ha : allR (l ++ m) = true := by have h := HB.out.2; rwa [List.take_of_length_le (by rw [Hes.out.2]; exact Nat.le_refl _)] at h
  replace Hes := Hes.out.1
  have bb := HB.out.1
  clear hlt hk hak hB HB
  replace hl := hl.on bb bb.size
  replace hm := hm.on bb bb.size
  replace hr := hr.on bb bb.size
  replace Hes := Hes.on bb bb.size
  have B2 := B1.trans (bb.mono B1.size)
  clear bb B1
  obtain ⟨B, L, q, q2, u, cs, ds, r, kk, hP, hBq, hLq, hq, hq2, hB, hL, ⟨z, hz, hLz⟩, ⟨hf1, hs1, hu1, z2, hz2⟩, hs2, hu2, hk2, i1, i2, i3, i4, hpre, heqk⟩ := back_bytes Hf.out ha HL.out.1 HL.out.2.1 HL.out.2.2.1 t2n t3n t4n
  obtain ⟨Q, hQ⟩ : ∃ Q, Q = q + q2 := ⟨_, rfl⟩
  rw [← hQ] at i1 hu1 heqk
  have hN0 := HN.out
  rw [← hN0] at i3 hpre heqk
  have HP := Lib.hid (⟨hP, hBq, hLq, hB, hL, hz, hLz, hf1, hs1, hu1, hz2, hs2, hu2, hk2, hpre, heqk⟩ : _ ∧ _ ∧ _ ∧ _ ∧ _ ∧ _ ∧ _ ∧ _ ∧ _ ∧ _ ∧ _ ∧ _ ∧ _ ∧ _ ∧ _ ∧ _)
  have HA := Lib.hid ha
  have HQ := Lib.hid hQ
  have hQ2 : Q ≤ 200000 := by omega
  have him := HN.out
  have hmr : allR m = true := by rw [allR_append, Bool.and_eq_true] at ha; exact ha.2
  have HM := Lib.hid hmr
  clear hP hBq hLq hB hL hz hLz hf1 hs1 hu1 hz2 hs2 hu2 hk2 hpre heqk hQ hN0 ha him hmr
  go_wp2_with fail
  refine (file_any first A n c l wr hl hnc (by omega)).mono ?_
  intro e w3 hh
  obtain ⟨A5, c5, rfl, hc5, r5, -, bb⟩ := hh.out HP.out.1 HP.out.2.1
  clear hh
  replace hl := hl.on bb bb.size
  replace hm := hm.on bb bb.size
  replace hr := hr.on bb bb.size
  replace Hes := Hes.on bb bb.size
  have B3 := B2.trans (bb.mono B2.size)
  clear bb B2
  clear hl
  go_wp2_with fail
  refine (more_any A5 q c5 B A2 n2 c2 m w3 r5 HP.out.2.2.2.1 hc5 (by omega) hm hnc2 (by omega)).mono ?_
  rintro e w4 ⟨L7, er7, hM7, h7⟩
  obtain ⟨rfl, rfl⟩ := hM7.yes HP.out.2.2.2.2.2.1 HM.out
  rw [← HP.out.2.2.2.2.2.2.1] at h7
  obtain ⟨A6, c6, rfl, r6, bb⟩ := h7.out HP.out.2.2.1
  clear h7 hM7
  replace hm := hm.on bb bb.size
  replace hr := hr.on bb bb.size
  replace Hes := Hes.on bb bb.size
  replace r5 := r5.on bb bb.size
  have B4 := B3.trans (bb.mono B3.size)
  clear bb B3
  clear hm
  go_wp2_with (at_builtin; refine hold ?_)
  refine unhold (wpList_append (.tmp 78) (.tmp 79) 24 Try.underlying24 hi hz0 hz1 hz2 Nu.byte_cells (by decide) (own_empty w4 w4.heap.size 5 1 (Nat.le_refl _)) ((Source.rd r5).alloc _) (by unfold maxLen; omega) (by omega) (by simp) rfl rfl rfl rfl ?_)
  intro va wa La
  obtain ⟨Aa, ca, rfl, hca, owna, ba, na⟩ := La.made
  clear La
  go_wp2_with (at_builtin; refine hold ?_)
  refine unhold (wpList_append (.tmp 80) (.tmp 81) 24 Try.underlying24 hi hz0 hz1 hz2 Nu.byte_cells (by decide) owna ((Source.rd r6).on ba) (by unfold maxLen; omega) (by omega) ba.size rfl rfl rfl rfl ?_)
  intro vb wb Lb
  obtain ⟨A7, c7, rfl, hc7, own7, bb, nb⟩ := Longer.more ba ba.size na Lb
  clear Lb owna ba na hca nb
  obtain ⟨w5, hwn⟩ : ∃ W, W = wb := ⟨_, rfl⟩
  subst hwn
  replace hr := hr.on bb bb.size
  replace Hes := Hes.on bb bb.size
  replace r5 := r5.on bb bb.size
  replace r6 := r6.on bb bb.size
  have B5 := B4.trans (bb.mono B4.size)
  clear bb B4
  have r7 := own_bytes (m := 0) own7
  clear own7
  rw [← HQ.out] at hc7 r7 ⊢
  clear r5 r6
  go_wp2_with fail
  refine (Scan_any A7 Q c7 (B ++ L) w5 r7 (HP.out.2.2.2.1.append HP.out.2.2.2.2.1) hc7 (by omega)).mono ?_
  intro e w6 hh
  obtain ⟨A8, c8, rfl, hc8, s8, bb⟩ := hh.yes HP.out.2.2.2.2.2.2.2.2.1 (q := N) (by rw [HP.out.2.2.2.2.2.2.2.1, List.length_append, HL.out.1, HL.out.2.1, HN.out]) HP.out.2.2.2.2.2.2.2.2.2.1
  clear hh
  replace hr := hr.on bb bb.size
  replace Hes := Hes.on bb bb.size
  replace r7 := r7.on bb bb.size
  have B6 := B5.trans (bb.mono B5.size)
  clear bb B5
  obtain ⟨w7, hw7⟩ : ∃ x, x = w6.alloc (.cells #[.int .i64 first, .slice A8 N c8, .int .i64 (Q : Int)] 36) := ⟨_, rfl⟩
  obtain ⟨z9, hz9⟩ : ∃ x, x = w6.heap.size := ⟨_, rfl⟩
  have bb : Below w6.heap.size w6 w7 := by rw [hw7]; exact (Below.refl _ _).alloc (Nat.le_refl _) _
  have z9b : BoxC w7 z9 first (.slice A8 N c8) (Q : Int) := by rw [hw7, hz9]; exact BoxC.new _ _ _ _
  have sz9 : z9 + 1 = w7.heap.size := by rw [hw7, hz9]; simp
  obtain ⟨d0, d1, d2⟩ := z9b.cells
  rw [hw7, hz9] at d0 d1 d2
  have HW := Lib.hid (⟨hw7, hz9, sz9⟩ : _ ∧ _ ∧ _)
  have lz9 : w.heap.size ≤ z9 := by rw [hz9]; exact B6.size
  clear hw7 hz9 sz9
  replace hr := hr.on bb bb.size
  replace Hes := Hes.on bb bb.size
  replace r7 := r7.on bb bb.size
  replace s8 := s8.on bb bb.size
  have B7 := B6.trans (bb.mono B6.size)
  clear bb B6
  go_wp2_with fail
  rw [← HW.out.1, ← HW.out.2.1]
  clear d0 d1 d2
  rw [HP.out.2.2.2.2.2.2.2.1] at s8
  have em := ents_any A8 A4 N N c8 c4 (l ++ m) (l ++ m) w7 s8 Hes (by omega) (by omega)
  rw [eqE_true rfl] at em
  refine em.mono ?_
  rintro e w8 ⟨rfl, bb⟩
  clear em
  replace hr := hr.on bb bb.size
  replace Hes := Hes.on bb bb.size
  replace r7 := r7.on bb bb.size
  replace s8 := s8.on bb bb.size
  replace z9b := z9b.below bb
  have B8 := B7.trans (bb.mono B7.size)
  clear bb B7
  clear s8
  go_wp2_with fail
  refine (end_any A7 Q c7 (B ++ L) w8 r7 (HP.out.2.2.2.1.append HP.out.2.2.2.2.1) hc7 (by omega)).mono ?_
  intro e w9 hh
  obtain ⟨x, y, rfl, hpt, bb⟩ := hh.yes HP.out.2.2.2.2.2.2.2.2.2.2.1
  clear hh
  replace hr := hr.on bb bb.size
  replace Hes := Hes.on bb bb.size
  replace r7 := r7.on bb bb.size
  replace z9b := z9b.below bb
  have B9 := B8.trans (bb.mono B8.size)
  clear bb B8
  have Hpt := Lib.hid hpt
  clear hpt
  go_wp2_with (at_builtin; refine hold ?_)
  refine unhold (wpList_append (.tmp 116) (.tmp 117) 24 Try.underlying24 hi hz0 hz1 hz2 Nu.byte_cells (by decide) (own_empty w9 w9.heap.size 5 1 (Nat.le_refl _)) ((Source.rd r7).alloc _) (by unfold maxLen; omega) (by omega) (by simp) rfl rfl rfl rfl ?_)
  intro va wa La
  obtain ⟨Aa, ca, rfl, hca, owna, ba, na⟩ := La.made
  clear La
  go_wp2_with (at_builtin; refine hold ?_)
  refine unhold (wpList_append (.tmp 118) (.tmp 119) 24 Try.underlying24 hi hz0 hz1 hz2 Nu.byte_cells (by decide) owna ((Source.rd hr).on ba) (by unfold maxLen; omega) (by omega) ba.size rfl rfl rfl rfl ?_)
  intro vb wb Lb
  obtain ⟨Ab, cb, rfl, hcb, ownb, bb, nb⟩ := Longer.more ba ba.size na Lb
  clear Lb owna ba na hca nb
  obtain ⟨w10, hwn⟩ : ∃ W, W = wb := ⟨_, rfl⟩
  subst hwn
  replace hr := hr.on bb bb.size
  replace Hes := Hes.on bb bb.size
  replace r7 := r7.on bb bb.size
  replace z9b := z9b.below bb
  have B10 := B9.trans (bb.mono B9.size)
  clear bb B9
  have rb := own_bytes (m := 0) ownb
  clear ownb
  go_wp2_with fail
  refine (Scan_any Ab (Q + n3) cb ((B ++ L) ++ be) w10 rb ((HP.out.2.2.2.1.append HP.out.2.2.2.2.1).append HL.out.2.2.2) hcb (by omega)).mono ?_
  intro e w11 hh
  obtain ⟨Ac, cc, rfl, hcc, sc, bb⟩ := hh.yes HP.out.2.2.2.2.2.2.2.2.2.2.2.1 HP.out.2.2.2.2.2.2.2.2.2.2.2.2.2.1 HP.out.2.2.2.2.2.2.2.2.2.2.2.2.1
  clear hh
  replace hr := hr.on bb bb.size
  replace Hes := Hes.on bb bb.size
  replace r7 := r7.on bb bb.size
  replace z9b := z9b.below bb
  replace rb := rb.on bb bb.size
  have B11 := B10.trans (bb.mono B10.size)
  clear bb B10
  obtain ⟨w12, hw12⟩ : ∃ x, x = ((w11.setCell ⟨z9, 0, none⟩ (.int .i64 first)).setCell ⟨z9, 1, none⟩ (.slice Ac kk cc)).setCell ⟨z9, 2, none⟩ (.int .i64 (u : Int)) := ⟨_, rfl⟩
  have f0 := z9b.frozen 0
  have f1 := z9b.frozen 1
  have f2 := z9b.frozen 2
  obtain ⟨d0, d1, d2⟩ := z9b.cells
  have bf : BoxC w12 z9 first (.slice Ac kk cc) (u : Int) := by rw [hw12]; exact ((z9b.s0 first).s1 _).s2 _
  obtain ⟨k0, k1, k2⟩ := bf.cells
  rw [hw12] at k0 k1 k2
  have es12 := es_apart Hes z9b (set3_other w11 z9 (.int .i64 first) (.slice Ac kk cc) (.int .i64 (u : Int)))
  have sc12 := es_apart sc z9b (set3_other w11 z9 (.int .i64 first) (.slice Ac kk cc) (.int .i64 (u : Int)))
  have B12 : Below w.heap.size w w12 := by rw [hw12]; exact ((B11.setCell (p := ⟨z9, 0, none⟩) lz9 _).setCell (p := ⟨z9, 1, none⟩) lz9 _).setCell (p := ⟨z9, 2, none⟩) lz9 _
  rw [← hw12] at es12 sc12
  replace es12 := es12.on (Below.refl _ _) (B' := w12.heap.size) (by rw [hw12]; simp)
  replace sc12 := sc12.on (Below.refl _ _) (B' := w12.heap.size) (by rw [hw12]; simp)
  have scf := Row.first sc12 i3
  rw [HP.out.2.2.2.2.2.2.2.2.2.2.2.2.2.2.1] at scf
  have HZ := Lib.hid (⟨hw12, bf, es12, scf, B12⟩ : _ ∧ _ ∧ _ ∧ _ ∧ _)
  have hcut := cut_firstE Try.underlying23 hj Ac kk cc N (by omega)
  have v1 : decide ((u : Int) < (Q : Int)) = false := by simp; omega
  have v2 : decide ((kk : Int) < (N : Int)) = false := by simp; omega
  have v3 : ¬ ((u : Int) < (Q : Int)) := by omega
  have v4 : ¬ ((kk : Int) < (N : Int)) := by omega
  clear hw12 bf es12 sc12 scf Hes sc B11 r7 rb hr z9b
  have hkk : u = Q → kk = N := HP.out.2.2.2.2.2.2.2.2.2.2.2.2.2.2.2
  have HU := Lib.hid hkk
  clear hkk B12
  go_wp2_with fail
  rw [← HZ.out.1]
  clear k0 k1 k2 f0 f1 f2 d0 d1 d2 hcut v1 v2 v3 v4
  have em := ents_any Ac A4 N N cc c4 (l ++ m) (l ++ m) w12 HZ.out.2.2.2.1 HZ.out.2.2.1 (by omega) (by omega)
  rw [eqE_true rfl] at em
  refine em.mono ?_
  rintro e w13 ⟨rfl, bb⟩
  clear em
  have bf := HZ.out.2.1.below bb
  have B13 := HZ.out.2.2.2.2.trans (bb.mono HZ.out.2.2.2.2.size)
  obtain ⟨d0, d1, d2⟩ := bf.cells
  clear bb
  have HF := Lib.hid (⟨bf, B13⟩ : _ ∧ _)
  clear bf B13
  by_cases huq : u = Q
  · have hkN := HU.out huq
    subst huq hkN
    go_wp2_with fail
    refine (Ga.rright_yes _ Hpt.out).mono ?_
    rintro e wf ⟨rfl, rfl⟩
    go_wp2_with fail
    refine (wakes_true w13).mono ?_
    rintro e wg ⟨rfl, bg⟩
    go_wp2_with fail
    go_ret
    exact ⟨rfl, HF.out.2.trans (bg.mono HF.out.2.size)⟩
  · have v5 : ((u : Int) == (Q : Int)) = false := by simp; omega
    have v6 : ¬ ((u : Int) = (Q : Int)) := by omega
    go_wp2_with fail
    refine (Ga.rright_yes _ Hpt.out).mono ?_
    rintro e wf ⟨rfl, rfl⟩
    go_wp2_with fail
    refine (wakes_true w13).mono ?_
    rintro e wg ⟨rfl, bg⟩
    go_wp2_with fail
    go_ret
    exact ⟨rfl, HF.out.2.trans (bg.mono HF.out.2.size)⟩

end Go.Proofs.Ytlojkbmoaifkaaa
