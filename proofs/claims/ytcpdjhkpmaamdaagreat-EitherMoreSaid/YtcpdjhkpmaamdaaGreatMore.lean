/-
  EitherMore: it returns true.
-/
import Derived.Test.YtcpdjhkpmaamdaaGreatWakes
import Derived.Test.YtcpdjhkpmaamdaaGreatPartE
namespace Go.Proofs.YtcpdjhkpmaamdaaGreat
open Go.RowKit
set_option linter.unusedVariables false

theorem room {a b k : Nat} (ha : a ≤ 2000) (hb : b ≤ 2000) : a + b ≤ 4000 := by omega
/-- What a round adds. -/
theorem more_step [Inhabited Cr.Rows16] {t f : Int} {b : List Int} {l m : List EnP} {R : List Int × Int} {N k q : Nat} (h : SegIs t b f l) (hR : MoreE t b m R) (hm : AllR m) (hN : l.length = N) (hq : m.length = q) (h5 : q ≤ 5) (hk : N ≤ 5 * k) (h6 : k ≤ 6) :
    R.2 = 0 ∧ SegIs t (b ++ R.1) f (l ++ m) ∧ R.1.length ≤ 3000 ∧ (l ++ m).length = N + q := by
  obtain ⟨h1, h2⟩ := hR.seg h hm
  have h3 := h2.len
  rw [List.length_append, List.length_append] at h3
  exact ⟨h1, h2, by omega, by rw [List.length_append]; omega⟩

set_option maxRecDepth 100000 in
set_option maxHeartbeats 16000000 in
theorem more_law [Inhabited Cr.Rows16] (first : Int) (A : Option Addr) (n c : Nat) (ps : List PartE) (t : Int) (w : World) (hT : Cr.Tab w) (hl : RawE w w.heap.size A n ps) (ht : (Lit.int .i64 t).wf = true) :
    Calls Tryz.prog 5 #[.int .i64 first, .slice A n c, .int .i64 t] w fun e w' => e = .returned (.bool true) ∧ Below w.heap.size w w' := by
  obtain ⟨i0, hi, hz0, hz1, hz2⟩ := info_parts Ga.info_u8
  obtain ⟨j0, hj, hy0, hy1, hy2⟩ := info_partsV info_entry
  have B0 := Below.refl w.heap.size w
  have HT := Lib.hid hT
  have HL := Lib.hid (⟨hl, ht⟩ : _ ∧ _)
  clear hT ht hl
  by_cases hc0 : first < (1 : Int)
  · have t0 : decide (first < (1 : Int)) = true := by simp; omega
    go_enter Tryz.func5, Tryz.ntmps5
    go_wp2_with fail
    refine (wakes_true w HT.out).mono ?_
    rintro e w1 ⟨rfl, hb1⟩
    go_wp2_with fail
    go_ret
    exact ⟨rfl, hb1⟩
  have t0 : decide (first < (1 : Int)) = false := by simp; omega
  have t0n : (1 : Int) ≤ first := by omega
  clear hc0
  by_cases hc0 : (1073741824 : Int) < first
  · have t1 : decide ((1073741824 : Int) < first) = true := by simp; omega
    go_enter Tryz.func5, Tryz.ntmps5
    go_wp2_with fail
    refine (wakes_true w HT.out).mono ?_
    rintro e w1 ⟨rfl, hb1⟩
    go_wp2_with fail
    go_ret
    exact ⟨rfl, hb1⟩
  have t1 : decide ((1073741824 : Int) < first) = false := by simp; omega
  have t1n : first ≤ (1073741824 : Int) := by omega
  clear hc0
  by_cases hc0 : 6 < n
  · have t2 : decide ((6 : Int) < (n : Int)) = true := by simp; omega
    go_enter Tryz.func5, Tryz.ntmps5
    go_wp2_with fail
    refine (wakes_true w HT.out).mono ?_
    rintro e w1 ⟨rfl, hb1⟩
    go_wp2_with fail
    go_ret
    exact ⟨rfl, hb1⟩
  have t2 : decide ((6 : Int) < (n : Int)) = false := by simp; omega
  have t2n : n ≤ 6 := by omega
  clear hc0
  by_cases hc0 : t < (1 : Int)
  · have t3 : decide (t < (1 : Int)) = true := by simp; omega
    go_enter Tryz.func5, Tryz.ntmps5
    go_wp2_with fail
    refine (wakes_true w HT.out).mono ?_
    rintro e w1 ⟨rfl, hb1⟩
    go_wp2_with fail
    go_ret
    exact ⟨rfl, hb1⟩
  have t3 : decide (t < (1 : Int)) = false := by simp; omega
  have t3n : (1 : Int) ≤ t := by omega
  clear hc0
  by_cases hc0 : (2 : Int) < t
  · have t4 : decide ((2 : Int) < t) = true := by simp; omega
    go_enter Tryz.func5, Tryz.ntmps5
    go_wp2_with fail
    refine (wakes_true w HT.out).mono ?_
    rintro e w1 ⟨rfl, hb1⟩
    go_wp2_with fail
    go_ret
    exact ⟨rfl, hb1⟩
  have t4 : decide ((2 : Int) < t) = false := by simp; omega
  have t4n : t ≤ (2 : Int) := by omega
  clear hc0
  have Hf := Lib.hid (show (1 ≤ first ∧ first ≤ 1073741824) ∧ FmtE t ∧ FmtE (3 - t) from ⟨⟨t0n, t1n⟩, by unfold FmtE; omega, by unfold FmtE; omega⟩)
  have hw3 : IntKind.i64.wrap (3 - t) = 3 - t := by rw [IntKind.wrap_i64]; omega
  have h3t : (Lit.int .i64 (3 - t)).wf = true := by simp only [Lit.wf, Bool.and_eq_true, decide_eq_true_eq]; constructor <;> (simp [IntKind.min, IntKind.max, IntKind.bits, IntKind.signed]; omega)
  have H3 := Lib.hid h3t
  clear h3t
  obtain ⟨B, q, hB, hSB, hBq, hq⟩ := fmt_file Hf.out.2.1 Hf.out.1 AllR.nil
  have HP := Lib.hid (⟨hB, hSB, hBq⟩ : _ ∧ _ ∧ _)
  clear hB hSB hBq
  simp only [List.length_nil] at hq
  go_enter Tryz.func5, Tryz.ntmps5
  go_wp2_with fail
  clear t0 t1 t2 t3 t4
  refine (File_any t first none 0 0 [] w (HT.out.on B0) Row.nil HL.out.2 (Nat.le_refl _) (by omega)).mono ?_
  intro e w1 hh
  obtain ⟨A1, c1, rfl, hc1, r1, bb⟩ := hh.out HP.out.1 HP.out.2.2
  (try clear hh)
  have B1 := B0.trans (bb.mono B0.size)
  clear bb B0
  go_wp2_with fail
  go_loopw [7, 9, 10] (fun vb va i wr => ∃ (k N nb cb : Nat) (L : List EnP) (Bk : List Int) (Ab : Option Addr), k ≤ n ∧ i = .int .i64 k ∧ vb = .slice Ab nb cb ∧ nb ≤ cb ∧ N ≤ 5 * k ∧ L.length = N ∧ SegIs t Bk first L ∧ Rd wr wr.heap.size .u8 Ab nb Bk ∧ wr.ownsRow w1.heap.size 41 3 va N (L.flatMap EnP.cs) ∧ Below w1.heap.size w1 wr) (fun _ _ i _ => n - (intOf i).toNat)
  case atStart => exact ⟨0, 0, q, c1, [], B, A1, Nat.zero_le _, rfl, rfl, hc1, Nat.zero_le _, rfl, HP.out.2.1, r1, World.ownsRow_nil _ _ _ _, Below.refl _ _⟩
  obtain ⟨k, N, nb, cb, L, Bk, Ab, hk, rfl, rfl, hnb, hN5, hLN, hSk, hrk, hown, hBk⟩ := hrel
  obtain ⟨Aa, ca, rfl, hca⟩ := own_slice hown
  have hnb2 : nb ≤ 2000 := by
    have h1 := hSk.len
    have h2 := hrk.1
    omega
  obtain ⟨wo, hwo⟩ : ∃ W, W = wr := ⟨_, rfl⟩
  subst hwo
  have BW := B1.trans (hBk.mono B1.size)
  clear r1
  by_cases hlt : k < n
  · obtain ⟨pb, poff, qA, qn, qc, ql, hA, hpb, hcell, hes, hqc⟩ := (HL.out.1.on BW BW.size).at_ hlt
    subst hA
    have HC := Lib.hid (show ∀ W, Below wo.heap.size wo W → W.cell? ⟨pb, poff + k, none⟩ = some (.slice qA qn qc) from fun W hW => (hW.cell (p := ⟨pb, poff + k, none⟩) hpb).trans hcell)
    have HE := Lib.hid (⟨hes, hes.len⟩ : _ ∧ _)
    have HR := Lib.hid (⟨hSk, hrk, hown, hBk, hLN, BW⟩ : _ ∧ _ ∧ _ ∧ _ ∧ _ ∧ _)
    clear hcell hes hSk hrk hown hBk hLN BW B1
    go_wp2_with fail
    go_loopw [11] (fun i wr => ∃ j : Nat, j ≤ qn ∧ j ≤ 6 ∧ i = .int .i64 j ∧ allR (ql.take j) = true ∧ Below wo.heap.size wo wr) (fun i _ => 6 - (intOf i).toNat)
    case atStart => exact ⟨0, Nat.zero_le _, Nat.zero_le _, rfl, rfl, Below.refl _ _⟩
    obtain ⟨j, hj1, hj6, rfl, haj, hB⟩ := hrel
    have HB := Lib.hid (⟨hB, haj⟩ : _ ∧ _)
    have cc := HC.out wr hB
    rcases (by omega : (j < qn ∧ j ≤ 5) ∨ ¬ j < qn ∨ (j < qn ∧ j = 6)) with ⟨hlj, hl5⟩ | hlj | ⟨hlj, hl5⟩
    · obtain ⟨b, off, e, hAe, hbl, he, d0, d1, d2⟩ := (HE.out.1.on hB hB.size).at_ hlj
      subst hAe
      have HV := Lib.hid he
      clear hB haj he
      cases hre : rightB e
      · go_wp2_with fail
        refine (rright_any e _).mono ?_
        rintro r w1' ⟨rfl, hb1⟩
        rw [hre]
        have H1 := Lib.hid (HR.out.2.2.2.2.2.trans ((HB.out.1.trans (hb1.mono HB.out.1.size)).mono HR.out.2.2.2.2.2.size))
        clear hb1 d0 d1 d2 hre cc
        go_wp2_with fail
        refine (wakes_true w1' (HT.out.on H1.out)).mono ?_
        rintro e w2 ⟨rfl, hb2⟩
        go_wp2_with fail
        go_ret
        exact ⟨rfl, H1.out.trans (hb2.mono H1.out.size)⟩
      · have Hr := Lib.hid hre
        go_wp2_with fail
        refine (rright_any e _).mono ?_
        rintro r w1' ⟨rfl, hb1⟩
        rw [hre]
        have H1 := Lib.hid (HB.out.1.trans (hb1.mono HB.out.1.size))
        clear hb1 d0 d1 d2 hre cc
        go_wp2_with fail
        go_roundw
        case rel => exact ⟨j + 1, by omega, by omega, by go_num, by rw [take_succ HV.out, allR_append, HB.out.2]; simp [allR, Hr.out], H1.out⟩
        case measure => simp [intOf]; omega
    · by_cases h5 : 5 < qn
      · have q5 : decide ((5 : Int) < (qn : Int)) = true := by simp; omega
        have H1 := Lib.hid (HR.out.2.2.2.2.2.trans (HB.out.1.mono HR.out.2.2.2.2.2.size))
        clear hB haj
        go_wp2_with fail
        refine (wakes_true wr (HT.out.on H1.out)).mono ?_
        rintro e w2 ⟨rfl, hb2⟩
        go_wp2_with fail
        go_ret
        exact ⟨rfl, H1.out.trans (hb2.mono H1.out.size)⟩
      · have q5 : decide ((5 : Int) < (qn : Int)) = false := by simp; omega
        have hall : AllR ql := allR_iff.1 (by have h := HB.out.2; rwa [List.take_of_length_le (by rw [HE.out.2]; omega)] at h)
        have B2 := HR.out.2.2.2.2.2.trans (HB.out.1.mono HR.out.2.2.2.2.2.size)
        have HA := Lib.hid hall
        clear hB haj hall
        go_wp2_with fail
        refine (EMore_any t Ab nb cb Bk qA qn qc ql wr (HT.out.on B2) (HR.out.2.1.on HB.out.1 HB.out.1.size) HR.out.1.byt hnb (by omega) (HE.out.1.on HB.out.1 HB.out.1.size) hqc (by omega) HL.out.2).mono ?_
        intro e w3 hh
        obtain ⟨⟨M, er⟩, hM, ⟨A3, c3, m, he, hMm, r3⟩, b3⟩ := hh
        obtain ⟨s1, s2, s3, s4⟩ := more_step HR.out.1 hM HA.out HR.out.2.2.2.2.1 HE.out.2 (by omega) hN5 (by omega)
        rw [show er = 0 from s1] at he
        subst he
        have hm2 : m ≤ 3000 := by rw [← hMm]; exact s3
        have B3 : Below wo.heap.size wo w3 := HB.out.1.trans (b3.mono HB.out.1.size)
        have HS := Lib.hid (⟨s2, s4, B3, r3⟩ : _ ∧ _ ∧ _ ∧ _)
        clear hM hMm r3 b3 s1 s2 s3 s4 B3 cc B2
        go_wp2_with (at_builtin; refine hold ?_)
        refine unhold (wpList_append (.tmp 94) (.tmp 95) 23 Tryz.underlying23 hi hz0 hz1 hz2 Nu.byte_cells (by decide) (own_empty w3 w3.heap.size 5 1 (Nat.le_refl _)) ((Source.rd (HR.out.2.1.on HS.out.2.2.1 HS.out.2.2.1.size)).alloc _) (by unfold maxLen; omega) (by omega) (by simp) rfl rfl rfl rfl ?_)
        intro va w4 La
        obtain ⟨A4, c4, rfl, hc4, own4, b4, n4⟩ := La.made
        have H4 := Lib.hid (⟨own4, b4, n4⟩ : _ ∧ _ ∧ _)
        clear own4 b4 n4 La
        go_wp2_with (at_builtin; refine hold ?_)
        refine unhold (wpList_append (.tmp 96) (.tmp 97) 23 Tryz.underlying23 hi hz0 hz1 hz2 Nu.byte_cells (by decide) H4.out.1 (Source.rd (HS.out.2.2.2.on H4.out.2.1 H4.out.2.1.size)) (by unfold maxLen; omega) (by omega) (by have := H4.out.2.1.size; omega) rfl rfl rfl rfl ?_)
        intro vb w5 Lb
        obtain ⟨A5, c5, rfl, hc5, own5, b5, n5⟩ := Longer.more (B := w3.heap.size) H4.out.2.1 H4.out.2.1.size H4.out.2.2 Lb
        have r5 := own_bytes (m := 0) own5
        have B5 : Below wo.heap.size wo w5 := HS.out.2.2.1.trans (b5.mono HS.out.2.2.1.size)
        have cc := HC.out w5 B5
        have own6 := own_keep HR.out.2.2.1 B5
        have l6 : ∀ g, (Value.slice Aa N ca).ownBlock = some g → g < w3.heap.size := fun g hg => Nat.lt_of_lt_of_le (HR.out.2.2.1.lt g hg).2 HS.out.2.2.1.size
        have H5 := Lib.hid (⟨r5, B5, n5, own6, l6⟩ : _ ∧ _ ∧ _ ∧ _ ∧ _)
        clear own5 b5 n5 r5 B5 own6 l6 Lb
        go_wp2_with (at_builtin; refine hold ?_)
        refine unhold (wpList_append (.tmp 99) (.tmp 103) 22 Tryz.underlying22 hj hy0 hy1 hy2 rfl (by decide) H5.out.2.2.2.1 (Source.es (HE.out.1.on H5.out.2.1 H5.out.2.1.size)) (by unfold maxLen; omega) (by omega) (by have := HR.out.2.2.2.1.size; have := H5.out.2.1.size; omega) rfl rfl rfl rfl ?_)
        intro vc w6 Lc
        have r6 : Rd w6 w6.heap.size .u8 A5 (nb + m) (Bk ++ M) := rd_over (c := c5) H5.out.1 (Nat.le_refl _) Lc.2.1 (fun g hg e => by have h1 := H5.out.2.2.2.2 g e; have h2 := H5.out.2.2.1 g hg; omega)
        obtain ⟨A6, c6, rfl, hc6, own6, b6, n6⟩ := Longer.more (B := w1.heap.size) (HR.out.2.2.2.1.trans (H5.out.2.1.mono HR.out.2.2.2.1.size)) (by have := HR.out.2.2.2.1.size; have := H5.out.2.1.size; omega) (fun g hg => (HR.out.2.2.1.lt g hg).1) Lc
        rw [← List.flatMap_append] at own6
        have H6 := Lib.hid (⟨r6, own6, b6⟩ : _ ∧ _ ∧ _)
        clear r6 own6 b6 n6 Lc cc
        go_wp2_with fail
        go_roundw
        case rel => exact ⟨k + 1, N + qn, nb + m, c5, L ++ ql, Bk ++ M, A5, by omega, by go_num, rfl, hc5, by omega, HS.out.2.1, HS.out.1, H6.out.1, H6.out.2.1, H6.out.2.2⟩
        case measure => simp [intOf]; omega
    · have q5 : decide ((5 : Int) < (qn : Int)) = true := by simp; omega
      have q6 : decide ((j : Int) ≤ 5) = false := by simp; omega
      have H1 := Lib.hid (HR.out.2.2.2.2.2.trans (HB.out.1.mono HR.out.2.2.2.2.2.size))
      clear hB haj
      go_wp2_with fail
      refine (wakes_true wr (HT.out.on H1.out)).mono ?_
      rintro e w2 ⟨rfl, hb2⟩
      go_wp2_with fail
      go_ret
      exact ⟨rfl, H1.out.trans (hb2.mono H1.out.size)⟩
  obtain ⟨C, d, hC, hSC, hCd, hd⟩ := fmt_file Hf.out.2.2 Hf.out.1 hSk.all
  have hd2 : d ≤ 2000 := by omega
  have esa : Es wo wo.heap.size Aa N L := Row.of_own (by decide) EnP.len hown
  have HQ := Lib.hid (⟨hSk, hC, hCd, hLN, hrk.1, hSC⟩ : _ ∧ _ ∧ _ ∧ _ ∧ _ ∧ _)
  clear B1 hC hSC hCd hd hSk hLN hown hBk
  go_wp2_with fail
  refine (EScan_any t Ab nb cb Bk wo (HT.out.on BW) hrk HQ.out.1.byt hnb (by omega) HL.out.2).mono ?_
  intro e w2 hh
  obtain ⟨A8, c8, rfl, hc8, s8, bb⟩ := hh.yes (by have h := HQ.out.1.scn; rw [HQ.out.2.2.2.2.1] at h; exact h) HQ.out.2.2.2.1
  (try clear hh)
  replace hrk := hrk.on bb bb.size
  replace esa := esa.on bb bb.size
  have B2 := BW.trans (bb.mono BW.size)
  clear bb
  obtain ⟨w3, hw3⟩ : ∃ x, x = w2.alloc (.cells #[.int .i64 first, .slice A8 N c8, .int .i64 (nb : Int)] 29) := ⟨_, rfl⟩
  obtain ⟨zz, hzz⟩ : ∃ x, x = w2.heap.size := ⟨_, rfl⟩
  have bb : Below w2.heap.size w2 w3 := by rw [hw3]; exact (Below.refl _ _).alloc (Nat.le_refl _) _
  have zb : BoxC w3 zz first (.slice A8 N c8) (nb : Int) := by rw [hw3, hzz]; exact BoxC.new _ _ _ _
  have szz : zz + 1 = w3.heap.size := by rw [hw3, hzz]; simp
  go_wp2_with fail
  rw [← hw3, ← hzz]
  clear hw3 hzz
  replace hrk := hrk.on bb bb.size
  replace esa := esa.on bb bb.size
  replace s8 := s8.on bb bb.size
  have B3 := B2.trans (bb.mono B2.size)
  clear bb B2
  refine Calls.mono (ETurn_any t (3 - t) Ab nb cb Bk w3 (HT.out.on B3) hrk HQ.out.1.byt hnb (by omega) HL.out.2 H3.out) ?_
  intro e w4 hh
  obtain ⟨R, hR, hh⟩ := hh
  obtain ⟨A9, c9, rfl, hc9, r9, bb⟩ := hh.out ((turn_file Hf.out.1 HQ.out.1.all Hf.out.2.1 Hf.out.2.2 HQ.out.1 hR).trans HQ.out.2.1) HQ.out.2.2.1
  clear hh hR
  replace hrk := hrk.on bb bb.size
  replace esa := esa.on bb bb.size
  replace s8 := s8.on bb bb.size
  replace zb := zb.below bb
  have B4 := B3.trans (bb.mono B3.size)
  clear bb B3
  go_wp2_with fail
  refine (File_any (3 - t) first Aa N ca L w4 (HT.out.on B4) esa H3.out hca (by omega)).mono ?_
  intro e w5 hh
  obtain ⟨Ac, cc, rfl, hcc, rc, bb⟩ := hh.out HQ.out.2.1 HQ.out.2.2.1
  (try clear hh)
  replace hrk := hrk.on bb bb.size
  replace esa := esa.on bb bb.size
  replace s8 := s8.on bb bb.size
  replace zb := zb.below bb
  replace r9 := r9.on bb bb.size
  have B5 := B4.trans (bb.mono B4.size)
  clear bb B4
  obtain ⟨k0, k1, k2⟩ := zb.cells
  go_wp2_with fail
  clear k0 k1 k2
  refine (ents_self A8 Aa N c8 ca L w5 s8 esa (by omega)).mono ?_
  intro e w6 hh
  obtain ⟨rfl, bb⟩ := hh
  (try clear hh)
  replace hrk := hrk.on bb bb.size
  replace esa := esa.on bb bb.size
  replace s8 := s8.on bb bb.size
  replace zb := zb.below bb
  replace r9 := r9.on bb bb.size
  replace rc := rc.on bb bb.size
  have B6 := B5.trans (bb.mono B5.size)
  clear bb B5
  go_wp2_with fail
  refine Calls.mono (same_self A9 Ac d c9 cc C w6 r9 rc HQ.out.2.2.2.2.2.byt) ?_
  rintro e wv ⟨rfl, rfl⟩
  go_wp2_with fail
  refine (wakes_true w6 (HT.out.on B6)).mono ?_
  intro e w7 hh
  obtain ⟨rfl, bb⟩ := hh
  (try clear hh)
  replace hrk := hrk.on bb bb.size
  replace esa := esa.on bb bb.size
  replace s8 := s8.on bb bb.size
  replace zb := zb.below bb
  replace r9 := r9.on bb bb.size
  replace rc := rc.on bb bb.size
  have B7 := B6.trans (bb.mono B6.size)
  clear bb B6
  go_wp2_with fail
  go_ret
  exact ⟨rfl, B7⟩

end Go.Proofs.YtcpdjhkpmaamdaaGreat
