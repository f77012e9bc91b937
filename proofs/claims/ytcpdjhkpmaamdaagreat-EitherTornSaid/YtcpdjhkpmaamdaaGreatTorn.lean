/-
  EitherTorn: it returns true.
-/
import Derived.Test.YtcpdjhkpmaamdaaGreatWakes
import Derived.Test.YtcpdjhkpmaamdaaGreatDraw
namespace Go.Proofs.YtcpdjhkpmaamdaaGreat
open Go.RowKit
set_option linter.unusedVariables false

theorem cut_firstE {P : Program} {t e : TypeId} {i : TypeInfo} (ht : P.underlying t = some (.slice e)) (hi : P.info? e = some i) (A : Option Addr) (n c k : Nat) (hk : k ≤ c) (W : World) :
    (Instr.slice t (.slice A n c) none (some (.int .i64 (k : Int))) none).run P W = .ok (.slice A k c) W := by
  have he : P.elem t = e := by simp [Program.elem, ht]
  have hu : P.underlying t = some (.slice (P.elem t)) := by rw [he]; exact ht
  rw [run_slice_h W t A n c hu .i64 (k : Int) (by omega) (by omega), he]
  simp [sizeOf, run_typeInfo, hi, sliced, go_sem]
theorem ScnIs.first [Inhabited Cr.Rows16] {t : Int} {b : List Int} {f : Int} {l : List EnP} {u : Nat} (h : ScnIs t b f l u) : b[0]? = some t := by
  rcases h with ⟨rfl, h, _⟩ | ⟨rfl, cs, r, h, _⟩
  · unfold headO at h
    split at h
    · rename_i h1
      have h0 := h1.2.1
      cases b with
      | nil => simp at h1
      | cons a b => simp at h0 ⊢; exact h0
    · cases h
  · obtain ⟨_, r, e⟩ := h.head
    rw [e]
    rfl
theorem seg_other [Inhabited Cr.Rows16] {t : Int} {B : List Int} {f : Int} {l : List EnP} (h : SegIs t B f l) (p : Nat) : NoScn (3 - t) (B.take p) := by
  have hf := h.fmt
  rcases scn_cases (t := 3 - t) (by unfold FmtE at hf; omega) (B.take p) with k | ⟨g, m, u, k⟩
  · exact k
  · exfalso
    have h1 := h.scn.first
    have h2 := k.first
    rw [List.getElem?_take] at h2
    split at h2
    · rw [h1] at h2
      have := Option.some.inj h2
      unfold FmtE at hf
      omega
    · cases h2
theorem which_none [Inhabited Cr.Rows16] {t : Int} {B : List Int} {f : Int} {l : List EnP} (h : SegIs t B f l) {p : Nat} (hn : NoScn t (B.take p)) : WhichIs (B.take p) 0 := by
  have h2 := seg_other h p
  rcases h.fmt with rfl | rfl
  · exact .inr (.inr ⟨rfl, hn, h2⟩)
  · exact .inr (.inr ⟨rfl, h2, hn⟩)
/-- What EitherTorn asks. -/
theorem torn10 [Inhabited Cr.Rows16] {t f : Int} {l : List EnP} {n : Nat} (ht : FmtE t) (hf : 1 ≤ f ∧ f ≤ 1073741824) (hl : AllR l) (hn : l.length = n) (h20 : n ≤ 20) :
    ∃ (B : List Int) (q : Nat), q ≤ 10000 ∧ fileE t f l = (B, 0) ∧ SegIs t B f l ∧ B.length = q ∧ ∀ p, p ≤ q →
      NoScn t (B.take p) ∨ ∃ j u, j ≤ n ∧ ScnIs t (B.take p) f (l.take j) u ∧ u ≤ p ∧ 1 ≤ u ∧ SegIs t (B.take u) f (l.take j) ∧ (p = q → u = p) := by
  obtain ⟨B, q, b1, b2, b3, b4⟩ := fmt_file ht hf hl
  refine ⟨B, q, by omega, b1, b2, b3, fun p hp => ?_⟩
  rcases cut_seg hf hl b1 (k := p) (by omega) with h | ⟨j, u, h1, h2, h3, h4, h5, h6⟩
  · exact .inl h
  · rw [List.take_take, Nat.min_eq_left h3] at h5
    exact .inr ⟨j, u, by omega, h2, h3, by omega, h5, fun e => h6 (by omega)⟩
theorem place_torn {q : Nat} (hq : q ≤ 100000) (a : Int) : ∃ (x y z : Int) (p : Nat), Int.tmod a ((q : Int) + 1) = x ∧ Int.tmod z ((q : Int) + 1) = (p : Int) ∧ p ≤ q ∧ wrap64 (x + (q : Int)) = y ∧ wrap64 (y + 1) = z ∧ (((q : Int) + 1) == 0) = false ∧ ¬ ((q : Int) + 1 = 0) := by
  have h0 : (0 : Int) < (q : Int) + 1 := by omega
  have h1 := Int.lt_tmod_of_pos a h0
  have h1' := Int.tmod_lt_of_pos a h0
  obtain ⟨x, hx⟩ : ∃ x, Int.tmod a ((q : Int) + 1) = x := ⟨_, rfl⟩
  rw [hx] at h1 h1'
  have h2 := Int.tmod_nonneg ((q : Int) + 1) (show 0 ≤ x + (q : Int) + 1 by omega)
  have h3 := Int.tmod_lt_of_pos (x + (q : Int) + 1) h0
  obtain ⟨m, hm⟩ : ∃ m, Int.tmod (x + (q : Int) + 1) ((q : Int) + 1) = m := ⟨_, rfl⟩
  rw [hm] at h2 h3
  exact ⟨x, x + q, x + q + 1, m.toNat, hx, by rw [hm]; omega, by omega, by unfold wrap64; omega, by unfold wrap64; omega, by simp; omega, by omega⟩
theorem alike_self [Inhabited Cr.Rows16] (t : Int) (A : Option Addr) (n c : Nat) (b : List Int) (w : World) {f : Int} {l : List EnP} (hs : SegIs t b f l) (hT : Cr.Tab w) (hr : Rd w w.heap.size .u8 A n b) (hnc : n ≤ c) (hn : n ≤ 200000) (ht : (Lit.int .i64 t).wf = true) :
    Calls Tryz.prog 20 #[.slice A n c, .int .i64 t, .slice A n c, .int .i64 t] w fun e w' => e = .returned (.bool true) ∧ Below w.heap.size w w' :=
  (Alike_any t t A A n c n c b b w hT hr hs.byt hnc hn hr hs.byt hnc hn ht ht).mono fun e w' ⟨⟨k, he, hk⟩, hb⟩ => ⟨by rw [he, show k = true from hk.same (alike_yes hs hs)], hb⟩

set_option maxRecDepth 100000 in
set_option maxHeartbeats 16000000 in
theorem torn_law [Inhabited Cr.Rows16] (first : Int) (A : Option Addr) (n c : Nat) (l : List EnP) (t left : Int) (w : World) (hT : Cr.Tab w) (hl : Es w w.heap.size A n l) (hnc : n ≤ c) (ht : (Lit.int .i64 t).wf = true) :
    Calls Tryz.prog 6 #[.int .i64 first, .slice A n c, .int .i64 t, .int .i64 left] w fun e w' => e = .returned (.bool true) ∧ Below w.heap.size w w' := by
  obtain ⟨i0, hi, hz0, hz1, hz2⟩ := info_parts Ga.info_u8
  obtain ⟨j0, hje, hy0, hy1, hy2⟩ := info_partsV info_entry
  have B0 := Below.refl w.heap.size w
  have HT := Lib.hid hT
  have HL := Lib.hid (⟨hl.len, ht⟩ : _ ∧ _)
  clear hT ht
  by_cases hc0 : first < (1 : Int)
  · have t0 : decide (first < (1 : Int)) = true := by simp; omega
    go_enter Tryz.func6, Tryz.ntmps6
    go_wp2_with fail
    refine (wakes_true w HT.out).mono ?_
    rintro e w1 ⟨rfl, hb1⟩
    go_wp2_with fail
    go_ret
    exact ⟨rfl, hb1⟩
  have t0 : decide (first < (1 : Int)) = false := by simp; omega
  have t0n : (1 : Int) ≤ first := by omega
  clear hc0
  by_cases hc0 : (1073741824 : Int) < first
  · have t1 : decide ((1073741824 : Int) < first) = true := by simp; omega
    go_enter Tryz.func6, Tryz.ntmps6
    go_wp2_with fail
    refine (wakes_true w HT.out).mono ?_
    rintro e w1 ⟨rfl, hb1⟩
    go_wp2_with fail
    go_ret
    exact ⟨rfl, hb1⟩
  have t1 : decide ((1073741824 : Int) < first) = false := by simp; omega
  have t1n : first ≤ (1073741824 : Int) := by omega
  clear hc0
  by_cases hc0 : 20 < n
  · have t2 : decide ((20 : Int) < (n : Int)) = true := by simp; omega
    go_enter Tryz.func6, Tryz.ntmps6
    go_wp2_with fail
    refine (wakes_true w HT.out).mono ?_
    rintro e w1 ⟨rfl, hb1⟩
    go_wp2_with fail
    go_ret
    exact ⟨rfl, hb1⟩
  have t2 : decide ((20 : Int) < (n : Int)) = false := by simp; omega
  have t2n : n ≤ 20 := by omega
  clear hc0
  by_cases hc0 : t < (1 : Int)
  · have t3 : decide (t < (1 : Int)) = true := by simp; omega
    go_enter Tryz.func6, Tryz.ntmps6
    go_wp2_with fail
    refine (wakes_true w HT.out).mono ?_
    rintro e w1 ⟨rfl, hb1⟩
    go_wp2_with fail
    go_ret
    exact ⟨rfl, hb1⟩
  have t3 : decide (t < (1 : Int)) = false := by simp; omega
  have t3n : (1 : Int) ≤ t := by omega
  clear hc0
  by_cases hc0 : (2 : Int) < t
  · have t4 : decide ((2 : Int) < t) = true := by simp; omega
    go_enter Tryz.func6, Tryz.ntmps6
    go_wp2_with fail
    refine (wakes_true w HT.out).mono ?_
    rintro e w1 ⟨rfl, hb1⟩
    go_wp2_with fail
    go_ret
    exact ⟨rfl, hb1⟩
  have t4 : decide ((2 : Int) < t) = false := by simp; omega
  have t4n : t ≤ (2 : Int) := by omega
  clear hc0
  have Hf := Lib.hid (show (1 ≤ first ∧ first ≤ 1073741824) ∧ FmtE t ∧ FmtE (3 - t) from ⟨⟨t0n, t1n⟩, by unfold FmtE; omega, by unfold FmtE; omega⟩)
  go_enter Tryz.func6, Tryz.ntmps6
  have Hes := Lib.hid (⟨hl, hl.len⟩ : _ ∧ _)
  clear hl
  go_wp2_with fail
  go_loopw [9] (fun i wr => ∃ k : Nat, k ≤ n ∧ i = .int .i64 k ∧ allR ((l).take k) = true ∧ Below w.heap.size w wr) (fun i _ => (n) - (intOf i).toNat)
  case atStart => exact ⟨0, Nat.zero_le _, rfl, rfl, Below.refl _ _⟩
  obtain ⟨k, hk, rfl, hak, hB⟩ := hrel
  have HB := Lib.hid (⟨hB, hak⟩ : _ ∧ _)
  by_cases hlt : k < n
  · obtain ⟨b, off, e, hAe, hbl, he, c0, c1, c2⟩ := (Hes.out.1.on hB hB.size).at_ hlt
    subst hAe
    have HE := Lib.hid he
    clear hB hak he
    cases hre : rightB e
    · go_wp2_with fail
      refine (rright_any e _).mono ?_
      rintro r w1 ⟨rfl, hb1⟩
      rw [hre]
      have H1 := Lib.hid (B0.trans ((HB.out.1.trans (hb1.mono HB.out.1.size)).mono B0.size))
      clear hb1 c0 c1 c2 hre
      go_wp2_with fail
      refine (wakes_true w1 (HT.out.on H1.out)).mono ?_
      rintro e w2 ⟨rfl, hb2⟩
      go_wp2_with fail
      go_ret
      exact ⟨rfl, H1.out.trans (hb2.mono H1.out.size)⟩
    · have Hr := Lib.hid hre
      go_wp2_with fail
      refine (rright_any e _).mono ?_
      rintro r w1 ⟨rfl, hb1⟩
      rw [hre]
      have H1 := Lib.hid (HB.out.1.trans (hb1.mono HB.out.1.size))
      clear hb1 c0 c1 c2 hre
      go_wp2_with fail
      go_roundw
      case rel => exact ⟨k + 1, by omega, by go_num, by rw [take_succ HE.out, allR_append, HB.out.2]; simp [allR, Hr.out], H1.out⟩
      case measure => simp [intOf]; omega
  obtain rfl : n = k := by omega
  have ha : allR (l) = true := by have h := HB.out.2; rwa [List.take_of_length_le (by rw [Hes.out.2]; exact Nat.le_refl _)] at h
  replace Hes := Hes.out.1
  have bb := HB.out.1
  clear hlt hk hak hB HB
  replace Hes := Hes.on bb bb.size
  have B1 := B0.trans (bb.mono B0.size)
  clear bb B0
  clear t0 t1 t2 t3 t4
  obtain ⟨B, q, hq, hB, hSB, hBq, hcut⟩ := torn10 Hf.out.2.1 Hf.out.1 (allR_iff.1 ha) HL.out.1 t2n
  obtain ⟨x, y, z, p, a2, a5, hpq, a3', a4', hN0, hN0'⟩ := place_torn (q := q) (by omega) left
  have HP := Lib.hid (⟨hB, hSB, hBq, hcut⟩ : _ ∧ _ ∧ _ ∧ _)
  have HA := Lib.hid (allR_iff.1 ha)
  have hw3 : IntKind.i64.wrap (3 - t) = 3 - t := by rw [IntKind.wrap_i64]; omega
  have h3t : (Lit.int .i64 (3 - t)).wf = true := by simp only [Lit.wf, Bool.and_eq_true, decide_eq_true_eq]; constructor <;> (simp [IntKind.min, IntKind.max, IntKind.bits, IntKind.signed]; omega)
  clear hB hSB hBq hcut ha
  go_wp2_with fail
  refine (File_any t first A n c l wr (HT.out.on B1) Hes HL.out.2 hnc (by omega)).mono ?_
  intro e w2 hh
  obtain ⟨A1, c1, rfl, hc1, r1, bb⟩ := hh.out HP.out.1 HP.out.2.2.1
  (try clear hh)
  replace Hes := Hes.on bb bb.size
  have B2 := B1.trans (bb.mono B1.size)
  clear bb B1
  have hcutS := cut_firstE Tryz.underlying23 hi A1 q c1 p (by omega)
  rcases HP.out.2.2.2 p hpq with hno | ⟨j, u, hj, hsc, hup, hu1, hsu, hpe⟩
  · have Hno := Lib.hid hno
    clear hno
    go_wp2_with fail
    clear a2 a5 a3' a4' hN0 hN0'
    refine (EScan_any t A1 p c1 (B.take p) w2 (HT.out.on B2) (r1.first (m := p) (by omega)) (HP.out.2.1.byt.take p) (by omega) (by omega) HL.out.2).mono ?_
    intro e w3 hh
    obtain ⟨A8, c8, rfl, bb⟩ := hh.no Hno.out
    (try clear hh)
    replace Hes := Hes.on bb bb.size
    replace r1 := r1.on bb bb.size
    have B3 := B2.trans (bb.mono B2.size)
    clear bb B2
    obtain ⟨w4, hw4⟩ : ∃ x, x = w3.alloc (.cells #[.int .i64 0, .slice A8 0 c8, .int .i64 0] 29) := ⟨_, rfl⟩
    obtain ⟨zz, hzz⟩ : ∃ x, x = w3.heap.size := ⟨_, rfl⟩
    have bb : Below w3.heap.size w3 w4 := by rw [hw4]; exact (Below.refl _ _).alloc (Nat.le_refl _) _
    have zb : BoxC w4 zz 0 (.slice A8 0 c8) 0 := by rw [hw4, hzz]; exact BoxC.new _ _ _ _
    have szz : zz + 1 = w4.heap.size := by rw [hw4, hzz]; simp
    go_wp2_with fail
    rw [← hw4, ← hzz]
    clear hw4 hzz
    replace Hes := Hes.on bb bb.size
    replace r1 := r1.on bb bb.size
    have B4 := B3.trans (bb.mono B3.size)
    clear bb B3
    refine Calls.mono (EMore_any t A1 p c1 (B.take p) none 0 0 [] w4 (HT.out.on B4) (r1.first (m := p) (by omega)) (HP.out.2.1.byt.take p) (by omega) (by omega) Row.nil (by omega) (by omega) HL.out.2) ?_
    intro e w5 hh
    obtain ⟨⟨L, er⟩, hM, ⟨A9, c9, n9, he, -, -⟩, bb⟩ := hh
    rw [show er = 11 from (congrArg Prod.snd (hM.same (.inr (.inl ⟨Hf.out.2.1, Hno.out.noSeg, rfl⟩))) : er = 11)] at he
    subst he
    clear hM
    replace Hes := Hes.on bb bb.size
    replace r1 := r1.on bb bb.size
    replace zb := zb.below bb
    have B5 := B4.trans (bb.mono B4.size)
    clear bb B4
    go_wp2_with fail
    refine Calls.mono (ETurn_any t (3 - t) A1 p c1 (B.take p) w5 (HT.out.on B5) (r1.first (m := p) (by omega)) (HP.out.2.1.byt.take p) (by omega) (by omega) HL.out.2 h3t) ?_
    intro e w6 hh
    obtain ⟨⟨L, er⟩, hR, ⟨A10, n10, c10, he, -, -, -⟩, bb⟩ := hh
    rw [show er = 11 from (congrArg Prod.snd (hR.same (.inr (.inl ⟨⟨Hf.out.2.1, Hf.out.2.2⟩, Hno.out.noSeg, rfl⟩))) : er = 11)] at he
    subst he
    clear hR
    replace Hes := Hes.on bb bb.size
    replace r1 := r1.on bb bb.size
    replace zb := zb.below bb
    have B6 := B5.trans (bb.mono B5.size)
    clear bb B5
    go_wp2_with fail
    refine Calls.mono (Which_any A1 p c1 (B.take p) w6 (HT.out.on B6) (r1.first (m := p) (by omega)) (HP.out.2.1.byt.take p) (by omega) (by omega)) ?_
    intro e w7 hh
    obtain ⟨⟨k, hke, hk⟩, bb⟩ := hh
    rw [show k = 0 from hk.same (which_none HP.out.2.1 Hno.out)] at hke
    subst hke
    clear hk
    replace Hes := Hes.on bb bb.size
    replace r1 := r1.on bb bb.size
    replace zb := zb.below bb
    have B7 := B6.trans (bb.mono B6.size)
    clear bb B6
    go_wp2_with fail
    refine (wakes_true w7 (HT.out.on B7)).mono ?_
    intro e w8 hh
    obtain ⟨rfl, bb⟩ := hh
    (try clear hh)
    replace Hes := Hes.on bb bb.size
    replace r1 := r1.on bb bb.size
    replace zb := zb.below bb
    have B8 := B7.trans (bb.mono B7.size)
    clear bb B7
    go_wp2_with fail
    go_ret
    exact ⟨rfl, B8⟩
  · have hjl : (l.take j).length = j := by rw [List.length_take, HL.out.1]; omega
    have HS := Lib.hid (⟨hsc, hsu, hjl⟩ : _ ∧ _ ∧ _)
    clear hsc hsu hjl
    go_wp2_with fail
    clear a2 a5 a3' a4' hN0 hN0'
    refine (EScan_any t A1 p c1 (B.take p) w2 (HT.out.on B2) (r1.first (m := p) (by omega)) (HP.out.2.1.byt.take p) (by omega) (by omega) HL.out.2).mono ?_
    intro e w3 hh
    obtain ⟨A8, c8, rfl, hc8, s8, bb⟩ := hh.yes HS.out.1 HS.out.2.2
    (try clear hh)
    replace Hes := Hes.on bb bb.size
    replace r1 := r1.on bb bb.size
    have B3 := B2.trans (bb.mono B2.size)
    clear bb B2
    obtain ⟨w4, hw4⟩ : ∃ x, x = w3.alloc (.cells #[.int .i64 first, .slice A8 j c8, .int .i64 (u : Int)] 29) := ⟨_, rfl⟩
    obtain ⟨zz, hzz⟩ : ∃ x, x = w3.heap.size := ⟨_, rfl⟩
    have bb : Below w3.heap.size w3 w4 := by rw [hw4]; exact (Below.refl _ _).alloc (Nat.le_refl _) _
    have zb : BoxC w4 zz first (.slice A8 j c8) (u : Int) := by rw [hw4, hzz]; exact BoxC.new _ _ _ _
    have szz : zz + 1 = w4.heap.size := by rw [hw4, hzz]; simp
    go_wp2_with fail
    rw [← hw4, ← hzz]
    clear hw4 hzz
    replace Hes := Hes.on bb bb.size
    replace r1 := r1.on bb bb.size
    replace s8 := s8.on bb bb.size
    have B4 := B3.trans (bb.mono B3.size)
    clear bb B3
    by_cases hw : u = p
    · have hsp : SegIs t (B.take p) first (l.take j) := by rw [← hw]; exact HS.out.2.1
      have q19 : ((u : Int) == (p : Int)) = true := by simp [hw]
      have Hw := Lib.hid (⟨hw, hsp⟩ : _ ∧ _)
      clear hw hsp
      refine Calls.mono (EMore_any t A1 p c1 (B.take p) none 0 0 [] w4 (HT.out.on B4) (r1.first (m := p) (by omega)) (HP.out.2.1.byt.take p) (by omega) (by omega) Row.nil (by omega) (by omega) HL.out.2) ?_
      intro e w5 hh
      obtain ⟨⟨L, er⟩, hM, ⟨A9, c9, n9, he, -, -⟩, bb⟩ := hh
      rw [show er = 0 from (hM.seg Hw.out.2 AllR.nil).1] at he
      subst he
      clear hM
      replace Hes := Hes.on bb bb.size
      replace r1 := r1.on bb bb.size
      replace s8 := s8.on bb bb.size
      replace zb := zb.below bb
      have B5 := B4.trans (bb.mono B4.size)
      clear bb B4
      go_wp2_with fail
      refine Calls.mono (ETurn_any t (3 - t) A1 p c1 (B.take p) w5 (HT.out.on B5) (r1.first (m := p) (by omega)) (HP.out.2.1.byt.take p) (by omega) (by omega) HL.out.2 h3t) ?_
      intro e w6 hh
      obtain ⟨⟨L, er⟩, hR, ⟨A10, n10, c10, he, -, -, -⟩, bb⟩ := hh
      rw [show er = 0 from (by obtain ⟨C, r, c1', -, -, -⟩ := fmt_file Hf.out.2.2 Hf.out.1 (fun x hx => HA.out x (List.mem_of_mem_take hx)); exact congrArg Prod.snd ((turn_file Hf.out.1 (fun x hx => HA.out x (List.mem_of_mem_take hx)) Hf.out.2.1 Hf.out.2.2 Hw.out.2 hR).trans c1'))] at he
      subst he
      clear hR
      replace Hes := Hes.on bb bb.size
      replace r1 := r1.on bb bb.size
      replace s8 := s8.on bb bb.size
      replace zb := zb.below bb
      have B6 := B5.trans (bb.mono B5.size)
      clear bb B5
      obtain ⟨d0, d1, d2⟩ := zb.cells
      go_wp2_with fail
      have X0 := Lib.hid (show ∀ W, Below w6.heap.size w6 W → BoxC W zz first (.slice A8 j c8) (u : Int) from fun W hW => zb.below hW)
      have hcutE := cut_firstE Tryz.underlying22 hje A n c j (by omega)
      have hcutB := cut_firstE Tryz.underlying23 hi A1 q c1 u (by omega)
      have HX := Lib.hid (⟨s8, Row.first Hes hj, r1, B6⟩ : _ ∧ _ ∧ _ ∧ _)
      have v1 : decide ((p : Int) < (u : Int)) = false := by simp; omega
      have v1' : ¬ ((p : Int) < (u : Int)) := by omega
      have v2 : decide ((u : Int) < 1) = false := by simp; omega
      have v2' : ¬ ((u : Int) < 1) := by omega
      have v3 : decide ((n : Int) < (j : Int)) = false := by simp; omega
      have v3' : ¬ ((n : Int) < (j : Int)) := by omega
      have hk9 : j ≤ 1000000000 := by omega
      have hu2 : u ≤ 200000 := by omega
      have hu3 : u ≤ c1 := by omega
      have hu4 : u ≤ q := by omega
      clear s8 Hes r1 B6 zb d0 d1 d2
      by_cases hpq2 : p = q
      · have q38 : ((p : Int) == (q : Int)) = true := by simp [hpq2]
        have q43 : ((u : Int) != (p : Int)) = false := by simp [Hw.out.1]
        clear hpq2
        refine wp_region_held_drew (S := (fun W => Below w6.heap.size w6 W)) (by kernel_rfl) (below_dr (below_d0 _)) (fun hHeld => ?_)
        refine take_at (i := 0) (d := 122) (oi := ?o1) (v := ?v1) ?hi1 ?hd1 (by kernel_rfl) (by kernel_rfl) (by kernel_rfl) ?hw1 ?hy1 ?hq1 (by assumption) ?r1
        case hi1 => (simp only [List.getElem?_toArray, List.getElem?_cons_zero]; rfl)
        case hd1 => rfl
        case hw1 => rfl
        case hy1 => ((intro w hSw; (try dsimp only at hSw); go_simp) <;> (with_reducible rfl))
        case hq1 => exact fun _ _ _ h => h
        simp only [List.set_cons_succ, List.set_cons_zero]
        refine take_at (i := 1) (d := 123) (oi := ?o2) (v := ?v2) ?hi2 ?hd2 (by kernel_rfl) (by kernel_rfl) (by kernel_rfl) ?hw2 ?hy2 ?hq2 (by assumption) ?r2
        case hi2 => (simp only [List.getElem?_toArray, List.getElem?_cons_succ, List.getElem?_cons_zero]; rfl)
        case hd2 => rfl
        case hw2 => rfl
        case hy2 => ((intro w hSw; (try dsimp only at hSw); obtain ⟨k0, k1, k2⟩ := (X0.out _ hSw).cells; go_simp) <;> (with_reducible rfl))
        case hq2 => exact fun _ _ _ h => h
        simp only [List.set_cons_succ, List.set_cons_zero]
        refine take_at (i := 2) (d := 124) (oi := ?o3) (v := ?v3) ?hi3 ?hd3 (by kernel_rfl) (by kernel_rfl) (by kernel_rfl) ?hw3 ?hy3 ?hq3 (by assumption) ?r3
        case hi3 => (simp only [List.getElem?_toArray, List.getElem?_cons_succ, List.getElem?_cons_zero]; rfl)
        case hd3 => rfl
        case hw3 => rfl
        case hy3 => ((intro w hSw; (try dsimp only at hSw); go_simp) <;> (with_reducible rfl))
        case hq3 => exact fun _ _ _ h => h
        simp only [List.set_cons_succ, List.set_cons_zero]
        refine take_at (i := 3) (d := 125) (oi := ?o4) (v := ?v4) ?hi4 ?hd4 (by kernel_rfl) (by kernel_rfl) (by kernel_rfl) ?hw4 ?hy4 ?hq4 (by assumption) ?r4
        case hi4 => (simp only [List.getElem?_toArray, List.getElem?_cons_succ, List.getElem?_cons_zero]; rfl)
        case hd4 => rfl
        case hw4 => rfl
        case hy4 => ((intro w hSw; (try dsimp only at hSw); go_simp) <;> (with_reducible rfl))
        case hq4 => exact fun _ _ _ h => h
        simp only [List.set_cons_succ, List.set_cons_zero]
        refine take_at (i := 4) (d := 126) (oi := ?o5) (v := ?v5) ?hi5 ?hd5 (by kernel_rfl) (by kernel_rfl) (by kernel_rfl) ?hw5 ?hy5 ?hq5 (by assumption) ?r5
        case hi5 => (simp only [List.getElem?_toArray, List.getElem?_cons_succ, List.getElem?_cons_zero]; rfl)
        case hd5 => rfl
        case hw5 => rfl
        case hy5 => ((intro w hSw; (try dsimp only at hSw); go_simp) <;> (with_reducible rfl))
        case hq5 => exact fun _ _ _ h => h
        simp only [List.set_cons_succ, List.set_cons_zero]
        refine take_at (i := 5) (d := 127) (oi := ?o6) (v := ?v6) ?hi6 ?hd6 (by kernel_rfl) (by kernel_rfl) (by kernel_rfl) ?hw6 ?hy6 ?hq6 (by assumption) ?r6
        case hi6 => (simp only [List.getElem?_toArray, List.getElem?_cons_succ, List.getElem?_cons_zero]; rfl)
        case hd6 => rfl
        case hw6 => rfl
        case hy6 => ((intro w hSw; (try dsimp only at hSw); go_simp) <;> (with_reducible rfl))
        case hq6 => exact fun _ _ _ h => h
        simp only [List.set_cons_succ, List.set_cons_zero]
        refine take_at (i := 6) (d := 128) (oi := ?o7) (v := ?v7) ?hi7 ?hd7 (by kernel_rfl) (by kernel_rfl) (by kernel_rfl) ?hw7 ?hy7 ?hq7 (by assumption) ?r7
        case hi7 => (simp only [List.getElem?_toArray, List.getElem?_cons_succ, List.getElem?_cons_zero]; rfl)
        case hd7 => rfl
        case hw7 => rfl
        case hy7 => ((intro w hSw; (try dsimp only at hSw); obtain ⟨k0, k1, k2⟩ := (X0.out _ hSw).cells; go_simp) <;> (with_reducible rfl))
        case hq7 => exact fun _ _ _ h => h
        simp only [List.set_cons_succ, List.set_cons_zero]
        refine take_at (i := 7) (d := 129) (oi := ?o8) (v := ?v8) ?hi8 ?hd8 (by kernel_rfl) (by kernel_rfl) (by kernel_rfl) ?hw8 ?hy8 ?hq8 (by assumption) ?r8
        case hi8 => (simp only [List.getElem?_toArray, List.getElem?_cons_succ, List.getElem?_cons_zero]; rfl)
        case hd8 => rfl
        case hw8 => rfl
        case hy8 => ((intro w hSw; (try dsimp only at hSw); go_simp) <;> (with_reducible rfl))
        case hq8 => exact fun _ _ _ h => h
        simp only [List.set_cons_succ, List.set_cons_zero]
        refine take_at (i := 8) (d := 130) (oi := ?o9) (v := ?v9) ?hi9 ?hd9 (by kernel_rfl) (by kernel_rfl) (by kernel_rfl) ?hw9 ?hy9 ?hq9 (by assumption) ?r9
        case hi9 => (simp only [List.getElem?_toArray, List.getElem?_cons_succ, List.getElem?_cons_zero]; rfl)
        case hd9 => rfl
        case hw9 => rfl
        case hy9 => ((intro w hSw; (try dsimp only at hSw); go_simp) <;> (with_reducible rfl))
        case hq9 => exact fun _ _ _ h => h
        simp only [List.set_cons_succ, List.set_cons_zero]
        refine take_at (i := 9) (d := 131) (oi := ?o10) (v := ?v10) ?hi10 ?hd10 (by kernel_rfl) (by kernel_rfl) (by kernel_rfl) ?hw10 ?hy10 ?hq10 (by assumption) ?r10
        case hi10 => (simp only [List.getElem?_toArray, List.getElem?_cons_succ, List.getElem?_cons_zero]; rfl)
        case hd10 => rfl
        case hw10 => rfl
        case hy10 => ((intro w hSw; (try dsimp only at hSw); go_simp) <;> (with_reducible rfl))
        case hq10 => exact fun _ _ _ h => h
        simp only [List.set_cons_succ, List.set_cons_zero]
        refine take_at (i := 10) (d := 132) (oi := ?o11) (v := ?v11) ?hi11 ?hd11 (by kernel_rfl) (by kernel_rfl) (by kernel_rfl) ?hw11 ?hy11 ?hq11 (by assumption) ?r11
        case hi11 => (simp only [List.getElem?_toArray, List.getElem?_cons_succ, List.getElem?_cons_zero]; rfl)
        case hd11 => rfl
        case hw11 => rfl
        case hy11 => ((intro w hSw; (try dsimp only at hSw); go_simp) <;> (with_reducible rfl))
        case hq11 => exact fun _ _ _ h => h
        simp only [List.set_cons_succ, List.set_cons_zero]
        refine take_at (i := 11) (d := 133) (oi := ?o12) (v := ?v12) ?hi12 ?hd12 (by kernel_rfl) (by kernel_rfl) (by kernel_rfl) ?hw12 ?hy12 ?hq12 (by assumption) ?r12
        case hi12 => (simp only [List.getElem?_toArray, List.getElem?_cons_succ, List.getElem?_cons_zero]; rfl)
        case hd12 => rfl
        case hw12 => rfl
        case hy12 => ((intro w hSw; (try dsimp only at hSw); go_simp) <;> (with_reducible rfl))
        case hq12 => exact fun _ _ _ h => h
        simp only [List.set_cons_succ, List.set_cons_zero]
        refine take_at (i := 12) (d := 134) (oi := ?o13) (v := ?v13) ?hi13 ?hd13 (by kernel_rfl) (by kernel_rfl) (by kernel_rfl) ?hw13 ?hy13 ?hq13 (by assumption) ?r13
        case hi13 => (simp only [List.getElem?_toArray, List.getElem?_cons_succ, List.getElem?_cons_zero]; rfl)
        case hd13 => rfl
        case hw13 => rfl
        case hy13 => ((intro w hSw; (try dsimp only at hSw); obtain ⟨k0, k1, k2⟩ := (X0.out _ hSw).cells; go_simp) <;> (with_reducible rfl))
        case hq13 => exact fun _ _ _ h => h
        simp only [List.set_cons_succ, List.set_cons_zero]
        refine take_at (i := 13) (d := 135) (oi := ?o14) (v := ?v14) ?hi14 ?hd14 (by kernel_rfl) (by kernel_rfl) (by kernel_rfl) ?hw14 ?hy14 ?hq14 (by assumption) ?r14
        case hi14 => (simp only [List.getElem?_toArray, List.getElem?_cons_succ, List.getElem?_cons_zero]; rfl)
        case hd14 => rfl
        case hw14 => rfl
        case hy14 => ((intro w hSw; (try dsimp only at hSw); go_simp) <;> (with_reducible rfl))
        case hq14 => exact fun _ _ _ h => h
        simp only [List.set_cons_succ, List.set_cons_zero]
        refine take_at (i := 14) (d := 136) (oi := ?o15) (v := ?v15) ?hi15 ?hd15 (by kernel_rfl) (by kernel_rfl) (by kernel_rfl) ?hw15 ?hy15 ?hq15 (by assumption) ?r15
        case hi15 => (simp only [List.getElem?_toArray, List.getElem?_cons_succ, List.getElem?_cons_zero]; rfl)
        case hd15 => rfl
        case hw15 => rfl
        case hy15 => ((intro w hSw; (try dsimp only at hSw); go_simp) <;> (with_reducible rfl))
        case hq15 => exact fun _ _ _ h => h
        simp only [List.set_cons_succ, List.set_cons_zero]
        refine take_at (i := 15) (d := 137) (oi := ?o16) (v := ?v16) ?hi16 ?hd16 (by kernel_rfl) (by kernel_rfl) (by kernel_rfl) ?hw16 ?hy16 ?hq16 (by assumption) ?r16
        case hi16 => (simp only [List.getElem?_toArray, List.getElem?_cons_succ, List.getElem?_cons_zero]; rfl)
        case hd16 => rfl
        case hw16 => rfl
        case hy16 => ((intro w hSw; (try dsimp only at hSw); go_simp) <;> (with_reducible rfl))
        case hq16 => exact fun _ _ _ h => h
        simp only [List.set_cons_succ, List.set_cons_zero]
        refine take_at (i := 16) (d := 138) (oi := ?o17) (v := ?v17) ?hi17 ?hd17 (by kernel_rfl) (by kernel_rfl) (by kernel_rfl) ?hw17 ?hy17 ?hq17 (by assumption) ?r17
        case hi17 => (simp only [List.getElem?_toArray, List.getElem?_cons_succ, List.getElem?_cons_zero]; rfl)
        case hd17 => rfl
        case hw17 => rfl
        case hy17 => ((intro w hSw; (try dsimp only at hSw); go_simp) <;> (with_reducible rfl))
        case hq17 => exact fun _ _ _ h => h
        simp only [List.set_cons_succ, List.set_cons_zero]
        refine take_at (i := 17) (d := 139) (oi := ?o18) (v := ?v18) ?hi18 ?hd18 (by kernel_rfl) (by kernel_rfl) (by kernel_rfl) ?hw18 ?hy18 ?hq18 (by assumption) ?r18
        case hi18 => (simp only [List.getElem?_toArray, List.getElem?_cons_succ, List.getElem?_cons_zero]; rfl)
        case hd18 => rfl
        case hw18 => rfl
        case hy18 => ((intro w hSw; (try dsimp only at hSw); obtain ⟨k0, k1, k2⟩ := (X0.out _ hSw).cells; go_simp) <;> (with_reducible rfl))
        case hq18 => exact fun _ _ _ h => h
        simp only [List.set_cons_succ, List.set_cons_zero]
        refine take_at (i := 18) (d := 140) (oi := ?o19) (v := ?v19) ?hi19 ?hd19 (by kernel_rfl) (by kernel_rfl) (by kernel_rfl) ?hw19 ?hy19 ?hq19 (by assumption) ?r19
        case hi19 => (simp only [List.getElem?_toArray, List.getElem?_cons_succ, List.getElem?_cons_zero]; rfl)
        case hd19 => rfl
        case hw19 => rfl
        case hy19 => ((intro w hSw; (try dsimp only at hSw); go_simp) <;> (with_reducible rfl))
        case hq19 => exact fun _ _ _ h => h
        simp only [List.set_cons_succ, List.set_cons_zero]
        refine take_at (i := 19) (d := 141) (oi := ?o20) (v := ?v20) ?hi20 ?hd20 (by kernel_rfl) (by kernel_rfl) (by kernel_rfl) ?hw20 ?hy20 ?hq20 (by assumption) ?r20
        case hi20 => (simp only [List.getElem?_toArray, List.getElem?_cons_succ, List.getElem?_cons_zero]; rfl)
        case hd20 => rfl
        case hw20 => rfl
        case hy20 => ((intro w hSw; (try dsimp only at hSw); go_simp) <;> (with_reducible rfl))
        case hq20 => exact fun _ _ _ h => h
        simp only [List.set_cons_succ, List.set_cons_zero]
        refine take_at (i := 20) (d := 142) (oi := ?o21) (v := ?v21) ?hi21 ?hd21 (by kernel_rfl) (by kernel_rfl) (by kernel_rfl) ?hw21 ?hy21 ?hq21 (by assumption) ?r21
        case hi21 => (simp only [List.getElem?_toArray, List.getElem?_cons_succ, List.getElem?_cons_zero]; rfl)
        case hd21 => rfl
        case hw21 => rfl
        case hy21 => ((intro w hSw; (try dsimp only at hSw); go_simp) <;> (with_reducible rfl))
        case hq21 => exact fun _ _ _ h => h
        simp only [List.set_cons_succ, List.set_cons_zero]
        refine take_at (i := 21) (d := 143) (oi := ?o22) (v := ?v22) ?hi22 ?hd22 (by kernel_rfl) (by kernel_rfl) (by kernel_rfl) ?hw22 ?hy22 ?hq22 (by assumption) ?r22
        case hi22 => (simp only [List.getElem?_toArray, List.getElem?_cons_succ, List.getElem?_cons_zero]; rfl)
        case hd22 => rfl
        case hw22 => rfl
        case hy22 => ((intro w hSw; (try dsimp only at hSw); go_simp) <;> (with_reducible rfl))
        case hq22 => exact fun _ _ _ h => h
        simp only [List.set_cons_succ, List.set_cons_zero]
        refine take_at (i := 22) (d := 144) (oi := ?o23) (v := ?v23) ?hi23 ?hd23 (by kernel_rfl) (by kernel_rfl) (by kernel_rfl) ?hw23 ?hy23 ?hq23 (by assumption) ?r23
        case hi23 => (simp only [List.getElem?_toArray, List.getElem?_cons_succ, List.getElem?_cons_zero]; rfl)
        case hd23 => rfl
        case hw23 => rfl
        case hy23 => ((intro w hSw; (try dsimp only at hSw); go_simp) <;> (with_reducible rfl))
        case hq23 => exact fun _ _ _ h => h
        simp only [List.set_cons_succ, List.set_cons_zero]
        refine take_at (i := 23) (d := 145) (oi := ?o24) (v := ?v24) ?hi24 ?hd24 (by kernel_rfl) (by kernel_rfl) (by kernel_rfl) ?hw24 ?hy24 ?hq24 (by assumption) ?r24
        case hi24 => (simp only [List.getElem?_toArray, List.getElem?_cons_succ, List.getElem?_cons_zero]; rfl)
        case hd24 => rfl
        case hw24 => rfl
        case hy24 => ((intro w hSw; (try dsimp only at hSw); go_simp) <;> (with_reducible rfl))
        case hq24 => exact fun _ _ _ h => h
        simp only [List.set_cons_succ, List.set_cons_zero]
        refine take_at (i := 24) (d := 146) (oi := ?o25) (v := ?v25) ?hi25 ?hd25 (by kernel_rfl) (by kernel_rfl) (by kernel_rfl) ?hw25 ?hy25 ?hq25 (by assumption) ?r25
        case hi25 => (simp only [List.getElem?_toArray, List.getElem?_cons_succ, List.getElem?_cons_zero]; rfl)
        case hd25 => rfl
        case hw25 => rfl
        case hy25 => ((intro w hSw; (try dsimp only at hSw); go_simp) <;> (with_reducible rfl))
        case hq25 => exact fun _ _ _ h => h
        simp only [List.set_cons_succ, List.set_cons_zero]
        refine take_at (i := 25) (d := 147) (oi := ?o26) (v := ?v26) ?hi26 ?hd26 (by kernel_rfl) (by kernel_rfl) (by kernel_rfl) ?hw26 ?hy26 ?hq26 (by assumption) ?r26
        case hi26 => (simp only [List.getElem?_toArray, List.getElem?_cons_succ, List.getElem?_cons_zero]; rfl)
        case hd26 => rfl
        case hw26 => rfl
        case hy26 => ((intro w hSw; (try dsimp only at hSw); obtain ⟨k0, k1, k2⟩ := (X0.out _ hSw).cells; go_simp) <;> (with_reducible rfl))
        case hq26 => exact fun _ _ _ h => h
        simp only [List.set_cons_succ, List.set_cons_zero]
        refine take_at (i := 26) (d := 148) (oi := ?o27) (v := ?v27) ?hi27 ?hd27 (by kernel_rfl) (by kernel_rfl) (by kernel_rfl) ?hw27 ?hy27 ?hq27 (by assumption) ?r27
        case hi27 => (simp only [List.getElem?_toArray, List.getElem?_cons_succ, List.getElem?_cons_zero]; rfl)
        case hd27 => rfl
        case hw27 => rfl
        case hy27 => ((intro w hSw; (try dsimp only at hSw); go_simp) <;> (with_reducible rfl))
        case hq27 => exact fun _ _ _ h => h
        simp only [List.set_cons_succ, List.set_cons_zero]
        refine take_at (i := 27) (d := 149) (oi := ?o28) (v := ?v28) ?hi28 ?hd28 (by kernel_rfl) (by kernel_rfl) (by kernel_rfl) ?hw28 ?hy28 ?hq28 (by assumption) ?r28
        case hi28 => (simp only [List.getElem?_toArray, List.getElem?_cons_succ, List.getElem?_cons_zero]; rfl)
        case hd28 => rfl
        case hw28 => rfl
        case hy28 => ((intro w hSw; (try dsimp only at hSw); go_simp) <;> (with_reducible rfl))
        case hq28 => exact fun _ _ _ h => h
        simp only [List.set_cons_succ, List.set_cons_zero]
        refine take_at (i := 28) (d := 150) (oi := ?o29) (v := ?v29) ?hi29 ?hd29 (by kernel_rfl) (by kernel_rfl) (by kernel_rfl) ?hw29 ?hy29 ?hq29 (by assumption) ?r29
        case hi29 => (simp only [List.getElem?_toArray, List.getElem?_cons_succ, List.getElem?_cons_zero]; rfl)
        case hd29 => rfl
        case hw29 => rfl
        case hy29 => ((intro w hSw; (try dsimp only at hSw); obtain ⟨k0, k1, k2⟩ := (X0.out _ hSw).cells; go_simp) <;> (with_reducible rfl))
        case hq29 => exact fun _ _ _ h => h
        simp only [List.set_cons_succ, List.set_cons_zero]
        refine take_at (i := 29) (d := 151) (oi := ?o30) (v := ?v30) ?hi30 ?hd30 (by kernel_rfl) (by kernel_rfl) (by kernel_rfl) ?hw30 ?hy30 ?hq30 (by assumption) ?r30
        case hi30 => (simp only [List.getElem?_toArray, List.getElem?_cons_succ, List.getElem?_cons_zero]; rfl)
        case hd30 => rfl
        case hw30 => rfl
        case hy30 => ((intro w hSw; (try dsimp only at hSw); go_simp) <;> (with_reducible rfl))
        case hq30 => exact fun _ _ _ h => h
        simp only [List.set_cons_succ, List.set_cons_zero]
        refine take_at (i := 30) (d := 152) (oi := ?o31) (v := ?v31) ?hi31 ?hd31 (by kernel_rfl) (by kernel_rfl) (by kernel_rfl) ?hw31 ?hy31 ?hq31 (by assumption) ?r31
        case hi31 => (simp only [List.getElem?_toArray, List.getElem?_cons_succ, List.getElem?_cons_zero]; rfl)
        case hd31 => rfl
        case hw31 => rfl
        case hy31 => ((intro w hSw; (try dsimp only at hSw); go_simp) <;> (with_reducible rfl))
        case hq31 => exact fun _ _ _ h => h
        simp only [List.set_cons_succ, List.set_cons_zero]
        refine call_at (i := 31) (d := 153) (oi := ?o32) (f := ?f32) (args := ?a32) ?hi32 ?hd32 (by kernel_rfl) ?hw32 ?he32 ?hc32
        case hi32 => (simp only [List.getElem?_toArray, List.getElem?_cons_succ, List.getElem?_cons_zero]; rfl)
        case hd32 => rfl
        case hw32 => rfl
        case he32 => (go_simp; constructor <;> with_reducible rfl)
        have em := ents_self A8 A j c8 c (l.take j) _ (HX.out.1.on hHeld hHeld.size) (Row.on HX.out.2.1 hHeld hHeld.size) hk9
        refine em.mono ?_
        rintro r wv ⟨rfl, hb1⟩
        have kb : Below w6.heap.size w6 wv := hHeld.trans (hb1.mono hHeld.size)
        clear em
        refine ⟨_, rfl, kb, fun hHeld => ?_⟩
        simp only [List.set_cons_succ, List.set_cons_zero]
        refine take_at (i := 32) (d := 154) (oi := ?o33) (v := ?v33) ?hi33 ?hd33 (by kernel_rfl) (by kernel_rfl) (by kernel_rfl) ?hw33 ?hy33 ?hq33 (by assumption) ?r33
        case hi33 => (simp only [List.getElem?_toArray, List.getElem?_cons_succ, List.getElem?_cons_zero]; rfl)
        case hd33 => rfl
        case hw33 => rfl
        case hy33 => ((intro w hSw; (try dsimp only at hSw); go_simp) <;> (with_reducible rfl))
        case hq33 => exact fun _ _ _ h => h
        simp only [List.set_cons_succ, List.set_cons_zero]
        refine take_at (i := 33) (d := 155) (oi := ?o34) (v := ?v34) ?hi34 ?hd34 (by kernel_rfl) (by kernel_rfl) (by kernel_rfl) ?hw34 ?hy34 ?hq34 (by assumption) ?r34
        case hi34 => (simp only [List.getElem?_toArray, List.getElem?_cons_succ, List.getElem?_cons_zero]; rfl)
        case hd34 => rfl
        case hw34 => rfl
        case hy34 => ((intro w hSw; (try dsimp only at hSw); go_simp) <;> (with_reducible rfl))
        case hq34 => exact fun _ _ _ h => h
        simp only [List.set_cons_succ, List.set_cons_zero]
        refine take_at (i := 34) (d := 156) (oi := ?o35) (v := ?v35) ?hi35 ?hd35 (by kernel_rfl) (by kernel_rfl) (by kernel_rfl) ?hw35 ?hy35 ?hq35 (by assumption) ?r35
        case hi35 => (simp only [List.getElem?_toArray, List.getElem?_cons_succ, List.getElem?_cons_zero]; rfl)
        case hd35 => rfl
        case hw35 => rfl
        case hy35 => ((intro w hSw; (try dsimp only at hSw); go_simp) <;> (with_reducible rfl))
        case hq35 => exact fun _ _ _ h => h
        simp only [List.set_cons_succ, List.set_cons_zero]
        refine take_at (i := 35) (d := 157) (oi := ?o36) (v := ?v36) ?hi36 ?hd36 (by kernel_rfl) (by kernel_rfl) (by kernel_rfl) ?hw36 ?hy36 ?hq36 (by assumption) ?r36
        case hi36 => (simp only [List.getElem?_toArray, List.getElem?_cons_succ, List.getElem?_cons_zero]; rfl)
        case hd36 => rfl
        case hw36 => rfl
        case hy36 => ((intro w hSw; (try dsimp only at hSw); go_simp) <;> (with_reducible rfl))
        case hq36 => exact fun _ _ _ h => h
        simp only [List.set_cons_succ, List.set_cons_zero]
        refine take_at (i := 36) (d := 158) (oi := ?o37) (v := ?v37) ?hi37 ?hd37 (by kernel_rfl) (by kernel_rfl) (by kernel_rfl) ?hw37 ?hy37 ?hq37 (by assumption) ?r37
        case hi37 => (simp only [List.getElem?_toArray, List.getElem?_cons_succ, List.getElem?_cons_zero]; rfl)
        case hd37 => rfl
        case hw37 => rfl
        case hy37 => ((intro w hSw; (try dsimp only at hSw); go_simp) <;> (with_reducible rfl))
        case hq37 => exact fun _ _ _ h => h
        simp only [List.set_cons_succ, List.set_cons_zero]
        refine take_at (i := 37) (d := 159) (oi := ?o38) (v := ?v38) ?hi38 ?hd38 (by kernel_rfl) (by kernel_rfl) (by kernel_rfl) ?hw38 ?hy38 ?hq38 (by assumption) ?r38
        case hi38 => (simp only [List.getElem?_toArray, List.getElem?_cons_succ, List.getElem?_cons_zero]; rfl)
        case hd38 => rfl
        case hw38 => rfl
        case hy38 => ((intro w hSw; (try dsimp only at hSw); go_simp) <;> (with_reducible rfl))
        case hq38 => exact fun _ _ _ h => h
        simp only [List.set_cons_succ, List.set_cons_zero]
        refine take_at (i := 38) (d := 160) (oi := ?o39) (v := ?v39) ?hi39 ?hd39 (by kernel_rfl) (by kernel_rfl) (by kernel_rfl) ?hw39 ?hy39 ?hq39 (by assumption) ?r39
        case hi39 => (simp only [List.getElem?_toArray, List.getElem?_cons_succ, List.getElem?_cons_zero]; rfl)
        case hd39 => rfl
        case hw39 => rfl
        case hy39 => ((intro w hSw; (try dsimp only at hSw); go_simp) <;> (with_reducible rfl))
        case hq39 => exact fun _ _ _ h => h
        simp only [List.set_cons_succ, List.set_cons_zero]
        refine take_at (i := 39) (d := 161) (oi := ?o40) (v := ?v40) ?hi40 ?hd40 (by kernel_rfl) (by kernel_rfl) (by kernel_rfl) ?hw40 ?hy40 ?hq40 (by assumption) ?r40
        case hi40 => (simp only [List.getElem?_toArray, List.getElem?_cons_succ, List.getElem?_cons_zero]; rfl)
        case hd40 => rfl
        case hw40 => rfl
        case hy40 => ((intro w hSw; (try dsimp only at hSw); go_simp) <;> (with_reducible rfl))
        case hq40 => exact fun _ _ _ h => h
        simp only [List.set_cons_succ, List.set_cons_zero]
        refine take_at (i := 40) (d := 162) (oi := ?o41) (v := ?v41) ?hi41 ?hd41 (by kernel_rfl) (by kernel_rfl) (by kernel_rfl) ?hw41 ?hy41 ?hq41 (by assumption) ?r41
        case hi41 => (simp only [List.getElem?_toArray, List.getElem?_cons_succ, List.getElem?_cons_zero]; rfl)
        case hd41 => rfl
        case hw41 => rfl
        case hy41 => ((intro w hSw; (try dsimp only at hSw); go_simp) <;> (with_reducible rfl))
        case hq41 => exact fun _ _ _ h => h
        simp only [List.set_cons_succ, List.set_cons_zero]
        refine take_at (i := 41) (d := 163) (oi := ?o42) (v := ?v42) ?hi42 ?hd42 (by kernel_rfl) (by kernel_rfl) (by kernel_rfl) ?hw42 ?hy42 ?hq42 (by assumption) ?r42
        case hi42 => (simp only [List.getElem?_toArray, List.getElem?_cons_succ, List.getElem?_cons_zero]; rfl)
        case hd42 => rfl
        case hw42 => rfl
        case hy42 => ((intro w hSw; (try dsimp only at hSw); obtain ⟨k0, k1, k2⟩ := (X0.out _ hSw).cells; go_simp) <;> (with_reducible rfl))
        case hq42 => exact fun _ _ _ h => h
        simp only [List.set_cons_succ, List.set_cons_zero]
        refine take_at (i := 42) (d := 164) (oi := ?o43) (v := ?v43) ?hi43 ?hd43 (by kernel_rfl) (by kernel_rfl) (by kernel_rfl) ?hw43 ?hy43 ?hq43 (by assumption) ?r43
        case hi43 => (simp only [List.getElem?_toArray, List.getElem?_cons_succ, List.getElem?_cons_zero]; rfl)
        case hd43 => rfl
        case hw43 => rfl
        case hy43 => ((intro w hSw; (try dsimp only at hSw); go_simp) <;> (with_reducible rfl))
        case hq43 => exact fun _ _ _ h => h
        simp only [List.set_cons_succ, List.set_cons_zero]
        refine take_at (i := 43) (d := 165) (oi := ?o44) (v := ?v44) ?hi44 ?hd44 (by kernel_rfl) (by kernel_rfl) (by kernel_rfl) ?hw44 ?hy44 ?hq44 (by assumption) ?r44
        case hi44 => (simp only [List.getElem?_toArray, List.getElem?_cons_succ, List.getElem?_cons_zero]; rfl)
        case hd44 => rfl
        case hw44 => rfl
        case hy44 => ((intro w hSw; (try dsimp only at hSw); go_simp) <;> (with_reducible rfl))
        case hq44 => exact fun _ _ _ h => h
        simp only [List.set_cons_succ, List.set_cons_zero]
        refine take_at (i := 44) (d := 166) (oi := ?o45) (v := ?v45) ?hi45 ?hd45 (by kernel_rfl) (by kernel_rfl) (by kernel_rfl) ?hw45 ?hy45 ?hq45 (by assumption) ?r45
        case hi45 => (simp only [List.getElem?_toArray, List.getElem?_cons_succ, List.getElem?_cons_zero]; rfl)
        case hd45 => rfl
        case hw45 => rfl
        case hy45 => ((intro w hSw; (try dsimp only at hSw); go_simp) <;> (with_reducible rfl))
        case hq45 => exact fun _ _ _ h => h
        simp only [List.set_cons_succ, List.set_cons_zero]
        refine take_at (i := 45) (d := 167) (oi := ?o46) (v := ?v46) ?hi46 ?hd46 (by kernel_rfl) (by kernel_rfl) (by kernel_rfl) ?hw46 ?hy46 ?hq46 (by assumption) ?r46
        case hi46 => (simp only [List.getElem?_toArray, List.getElem?_cons_succ, List.getElem?_cons_zero]; rfl)
        case hd46 => rfl
        case hw46 => rfl
        case hy46 => ((intro w hSw; (try dsimp only at hSw); go_simp) <;> (with_reducible rfl))
        case hq46 => exact fun _ _ _ h => h
        simp only [List.set_cons_succ, List.set_cons_zero]
        refine wpAnyH_done (by kernel_rfl) ?_ _
        have hc9 := hHeld
        obtain ⟨d0, d1, d2⟩ := (X0.out _ hc9).cells
        clear hHeld
        go_wp2_with fail
        clear d0 d1 d2
        refine wp_region_held_drew (S := (fun W => Below w6.heap.size w6 W)) (by kernel_rfl) (below_dr hc9) (fun hHeld => ?_)
        refine take_at (i := 0) (d := 172) (oi := ?o47) (v := ?v47) ?hi47 ?hd47 (by kernel_rfl) (by kernel_rfl) (by kernel_rfl) ?hw47 ?hy47 ?hq47 (by assumption) ?r47
        case hi47 => (simp only [List.getElem?_toArray, List.getElem?_cons_zero]; rfl)
        case hd47 => rfl
        case hw47 => rfl
        case hy47 => ((intro w hSw; (try dsimp only at hSw); go_simp) <;> (with_reducible rfl))
        case hq47 => exact fun _ _ _ h => h
        simp only [List.set_cons_succ, List.set_cons_zero]
        refine take_at (i := 1) (d := 173) (oi := ?o48) (v := ?v48) ?hi48 ?hd48 (by kernel_rfl) (by kernel_rfl) (by kernel_rfl) ?hw48 ?hy48 ?hq48 (by assumption) ?r48
        case hi48 => (simp only [List.getElem?_toArray, List.getElem?_cons_succ, List.getElem?_cons_zero]; rfl)
        case hd48 => rfl
        case hw48 => rfl
        case hy48 => ((intro w hSw; (try dsimp only at hSw); go_simp) <;> (with_reducible rfl))
        case hq48 => exact fun _ _ _ h => h
        simp only [List.set_cons_succ, List.set_cons_zero]
        refine take_at (i := 2) (d := 174) (oi := ?o49) (v := ?v49) ?hi49 ?hd49 (by kernel_rfl) (by kernel_rfl) (by kernel_rfl) ?hw49 ?hy49 ?hq49 (by assumption) ?r49
        case hi49 => (simp only [List.getElem?_toArray, List.getElem?_cons_succ, List.getElem?_cons_zero]; rfl)
        case hd49 => rfl
        case hw49 => rfl
        case hy49 => ((intro w hSw; (try dsimp only at hSw); go_simp) <;> (with_reducible rfl))
        case hq49 => exact fun _ _ _ h => h
        simp only [List.set_cons_succ, List.set_cons_zero]
        refine take_at (i := 3) (d := 175) (oi := ?o50) (v := ?v50) ?hi50 ?hd50 (by kernel_rfl) (by kernel_rfl) (by kernel_rfl) ?hw50 ?hy50 ?hq50 (by assumption) ?r50
        case hi50 => (simp only [List.getElem?_toArray, List.getElem?_cons_succ, List.getElem?_cons_zero]; rfl)
        case hd50 => rfl
        case hw50 => rfl
        case hy50 => ((intro w hSw; (try dsimp only at hSw); go_simp) <;> (with_reducible rfl))
        case hq50 => exact fun _ _ _ h => h
        simp only [List.set_cons_succ, List.set_cons_zero]
        refine take_at (i := 4) (d := 176) (oi := ?o51) (v := ?v51) ?hi51 ?hd51 (by kernel_rfl) (by kernel_rfl) (by kernel_rfl) ?hw51 ?hy51 ?hq51 (by assumption) ?r51
        case hi51 => (simp only [List.getElem?_toArray, List.getElem?_cons_succ, List.getElem?_cons_zero]; rfl)
        case hd51 => rfl
        case hw51 => rfl
        case hy51 => ((intro w hSw; (try dsimp only at hSw); go_simp) <;> (with_reducible rfl))
        case hq51 => exact fun _ _ _ h => h
        simp only [List.set_cons_succ, List.set_cons_zero]
        refine take_at (i := 5) (d := 177) (oi := ?o52) (v := ?v52) ?hi52 ?hd52 (by kernel_rfl) (by kernel_rfl) (by kernel_rfl) ?hw52 ?hy52 ?hq52 (by assumption) ?r52
        case hi52 => (simp only [List.getElem?_toArray, List.getElem?_cons_succ, List.getElem?_cons_zero]; rfl)
        case hd52 => rfl
        case hw52 => rfl
        case hy52 => ((intro w hSw; (try dsimp only at hSw); go_simp) <;> (with_reducible rfl))
        case hq52 => exact fun _ _ _ h => h
        simp only [List.set_cons_succ, List.set_cons_zero]
        refine take_at (i := 6) (d := 178) (oi := ?o53) (v := ?v53) ?hi53 ?hd53 (by kernel_rfl) (by kernel_rfl) (by kernel_rfl) ?hw53 ?hy53 ?hq53 (by assumption) ?r53
        case hi53 => (simp only [List.getElem?_toArray, List.getElem?_cons_succ, List.getElem?_cons_zero]; rfl)
        case hd53 => rfl
        case hw53 => rfl
        case hy53 => ((intro w hSw; (try dsimp only at hSw); go_simp) <;> (with_reducible rfl))
        case hq53 => exact fun _ _ _ h => h
        simp only [List.set_cons_succ, List.set_cons_zero]
        refine take_at (i := 7) (d := 179) (oi := ?o54) (v := ?v54) ?hi54 ?hd54 (by kernel_rfl) (by kernel_rfl) (by kernel_rfl) ?hw54 ?hy54 ?hq54 (by assumption) ?r54
        case hi54 => (simp only [List.getElem?_toArray, List.getElem?_cons_succ, List.getElem?_cons_zero]; rfl)
        case hd54 => rfl
        case hw54 => rfl
        case hy54 => ((intro w hSw; (try dsimp only at hSw); go_simp) <;> (with_reducible rfl))
        case hq54 => exact fun _ _ _ h => h
        simp only [List.set_cons_succ, List.set_cons_zero]
        refine take_at (i := 8) (d := 180) (oi := ?o55) (v := ?v55) ?hi55 ?hd55 (by kernel_rfl) (by kernel_rfl) (by kernel_rfl) ?hw55 ?hy55 ?hq55 (by assumption) ?r55
        case hi55 => (simp only [List.getElem?_toArray, List.getElem?_cons_succ, List.getElem?_cons_zero]; rfl)
        case hd55 => rfl
        case hw55 => rfl
        case hy55 => ((intro w hSw; (try dsimp only at hSw); go_simp) <;> (with_reducible rfl))
        case hq55 => exact fun _ _ _ h => h
        simp only [List.set_cons_succ, List.set_cons_zero]
        refine take_at (i := 9) (d := 181) (oi := ?o56) (v := ?v56) ?hi56 ?hd56 (by kernel_rfl) (by kernel_rfl) (by kernel_rfl) ?hw56 ?hy56 ?hq56 (by assumption) ?r56
        case hi56 => (simp only [List.getElem?_toArray, List.getElem?_cons_succ, List.getElem?_cons_zero]; rfl)
        case hd56 => rfl
        case hw56 => rfl
        case hy56 => ((intro w hSw; (try dsimp only at hSw); go_simp) <;> (with_reducible rfl))
        case hq56 => exact fun _ _ _ h => h
        simp only [List.set_cons_succ, List.set_cons_zero]
        refine take_at (i := 10) (d := 182) (oi := ?o57) (v := ?v57) ?hi57 ?hd57 (by kernel_rfl) (by kernel_rfl) (by kernel_rfl) ?hw57 ?hy57 ?hq57 (by assumption) ?r57
        case hi57 => (simp only [List.getElem?_toArray, List.getElem?_cons_succ, List.getElem?_cons_zero]; rfl)
        case hd57 => rfl
        case hw57 => rfl
        case hy57 => ((intro w hSw; (try dsimp only at hSw); go_simp) <;> (with_reducible rfl))
        case hq57 => exact fun _ _ _ h => h
        simp only [List.set_cons_succ, List.set_cons_zero]
        refine take_at (i := 11) (d := 183) (oi := ?o58) (v := ?v58) ?hi58 ?hd58 (by kernel_rfl) (by kernel_rfl) (by kernel_rfl) ?hw58 ?hy58 ?hq58 (by assumption) ?r58
        case hi58 => (simp only [List.getElem?_toArray, List.getElem?_cons_succ, List.getElem?_cons_zero]; rfl)
        case hd58 => rfl
        case hw58 => rfl
        case hy58 => ((intro w hSw; (try dsimp only at hSw); go_simp) <;> (with_reducible rfl))
        case hq58 => exact fun _ _ _ h => h
        simp only [List.set_cons_succ, List.set_cons_zero]
        refine take_at (i := 12) (d := 184) (oi := ?o59) (v := ?v59) ?hi59 ?hd59 (by kernel_rfl) (by kernel_rfl) (by kernel_rfl) ?hw59 ?hy59 ?hq59 (by assumption) ?r59
        case hi59 => (simp only [List.getElem?_toArray, List.getElem?_cons_succ, List.getElem?_cons_zero]; rfl)
        case hd59 => rfl
        case hw59 => rfl
        case hy59 => ((intro w hSw; (try dsimp only at hSw); go_simp) <;> (with_reducible rfl))
        case hq59 => exact fun _ _ _ h => h
        simp only [List.set_cons_succ, List.set_cons_zero]
        refine skip_at (i := 13) (d := 185) (oi := ?o60) ?hi60 ?hd60 (by kernel_rfl) (by kernel_rfl) (by kernel_rfl) ?hw60 ?hq60 (by assumption) ?r60
        case hi60 => (simp only [List.getElem?_toArray, List.getElem?_cons_succ, List.getElem?_cons_zero]; rfl)
        case hd60 => rfl
        case hw60 => rfl
        case hq60 => exact fun _ _ _ h => h
        simp only [List.set_cons_succ, List.set_cons_zero]
        refine skip_at (i := 14) (d := 186) (oi := ?o61) ?hi61 ?hd61 (by kernel_rfl) (by kernel_rfl) (by kernel_rfl) ?hw61 ?hq61 (by assumption) ?r61
        case hi61 => (simp only [List.getElem?_toArray, List.getElem?_cons_succ, List.getElem?_cons_zero]; rfl)
        case hd61 => rfl
        case hw61 => rfl
        case hq61 => exact fun _ _ _ h => h
        simp only [List.set_cons_succ, List.set_cons_zero]
        refine skip_at (i := 15) (d := 187) (oi := ?o62) ?hi62 ?hd62 (by kernel_rfl) (by kernel_rfl) (by kernel_rfl) ?hw62 ?hq62 (by assumption) ?r62
        case hi62 => (simp only [List.getElem?_toArray, List.getElem?_cons_succ, List.getElem?_cons_zero]; rfl)
        case hd62 => rfl
        case hw62 => rfl
        case hq62 => exact fun _ _ _ h => h
        simp only [List.set_cons_succ, List.set_cons_zero]
        refine skip_at (i := 16) (d := 188) (oi := ?o63) ?hi63 ?hd63 (by kernel_rfl) (by kernel_rfl) (by kernel_rfl) ?hw63 ?hq63 (by assumption) ?r63
        case hi63 => (simp only [List.getElem?_toArray, List.getElem?_cons_succ, List.getElem?_cons_zero]; rfl)
        case hd63 => rfl
        case hw63 => rfl
        case hq63 => exact fun _ _ _ h => h
        simp only [List.set_cons_succ, List.set_cons_zero]
        refine skip_at (i := 17) (d := 189) (oi := ?o64) ?hi64 ?hd64 (by kernel_rfl) (by kernel_rfl) (by kernel_rfl) ?hw64 ?hq64 (by assumption) ?r64
        case hi64 => (simp only [List.getElem?_toArray, List.getElem?_cons_succ, List.getElem?_cons_zero]; rfl)
        case hd64 => rfl
        case hw64 => rfl
        case hq64 => exact fun _ _ _ h => h
        simp only [List.set_cons_succ, List.set_cons_zero]
        refine skip_at (i := 18) (d := 190) (oi := ?o65) ?hi65 ?hd65 (by kernel_rfl) (by kernel_rfl) (by kernel_rfl) ?hw65 ?hq65 (by assumption) ?r65
        case hi65 => (simp only [List.getElem?_toArray, List.getElem?_cons_succ, List.getElem?_cons_zero]; rfl)
        case hd65 => rfl
        case hw65 => rfl
        case hq65 => exact fun _ _ _ h => h
        simp only [List.set_cons_succ, List.set_cons_zero]
        refine take_at (i := 19) (d := 191) (oi := ?o66) (v := ?v66) ?hi66 ?hd66 (by kernel_rfl) (by kernel_rfl) (by kernel_rfl) ?hw66 ?hy66 ?hq66 (by assumption) ?r66
        case hi66 => (simp only [List.getElem?_toArray, List.getElem?_cons_succ, List.getElem?_cons_zero]; rfl)
        case hd66 => rfl
        case hw66 => rfl
        case hy66 => ((intro w hSw; (try dsimp only at hSw); go_simp) <;> (with_reducible rfl))
        case hq66 => exact fun _ _ _ h => h
        simp only [List.set_cons_succ, List.set_cons_zero]
        refine take_at (i := 20) (d := 192) (oi := ?o67) (v := ?v67) ?hi67 ?hd67 (by kernel_rfl) (by kernel_rfl) (by kernel_rfl) ?hw67 ?hy67 ?hq67 (by assumption) ?r67
        case hi67 => (simp only [List.getElem?_toArray, List.getElem?_cons_succ, List.getElem?_cons_zero]; rfl)
        case hd67 => rfl
        case hw67 => rfl
        case hy67 => ((intro w hSw; (try dsimp only at hSw); go_simp) <;> (with_reducible rfl))
        case hq67 => exact fun _ _ _ h => h
        simp only [List.set_cons_succ, List.set_cons_zero]
        refine take_at (i := 21) (d := 193) (oi := ?o68) (v := ?v68) ?hi68 ?hd68 (by kernel_rfl) (by kernel_rfl) (by kernel_rfl) ?hw68 ?hy68 ?hq68 (by assumption) ?r68
        case hi68 => (simp only [List.getElem?_toArray, List.getElem?_cons_succ, List.getElem?_cons_zero]; rfl)
        case hd68 => rfl
        case hw68 => rfl
        case hy68 => ((intro w hSw; (try dsimp only at hSw); go_simp) <;> (with_reducible rfl))
        case hq68 => exact fun _ _ _ h => h
        simp only [List.set_cons_succ, List.set_cons_zero]
        refine take_at (i := 22) (d := 194) (oi := ?o69) (v := ?v69) ?hi69 ?hd69 (by kernel_rfl) (by kernel_rfl) (by kernel_rfl) ?hw69 ?hy69 ?hq69 (by assumption) ?r69
        case hi69 => (simp only [List.getElem?_toArray, List.getElem?_cons_succ, List.getElem?_cons_zero]; rfl)
        case hd69 => rfl
        case hw69 => rfl
        case hy69 => ((intro w hSw; (try dsimp only at hSw); go_simp) <;> (with_reducible rfl))
        case hq69 => exact fun _ _ _ h => h
        simp only [List.set_cons_succ, List.set_cons_zero]
        refine take_at (i := 23) (d := 195) (oi := ?o70) (v := ?v70) ?hi70 ?hd70 (by kernel_rfl) (by kernel_rfl) (by kernel_rfl) ?hw70 ?hy70 ?hq70 (by assumption) ?r70
        case hi70 => (simp only [List.getElem?_toArray, List.getElem?_cons_succ, List.getElem?_cons_zero]; rfl)
        case hd70 => rfl
        case hw70 => rfl
        case hy70 => ((intro w hSw; (try dsimp only at hSw); go_simp) <;> (with_reducible rfl))
        case hq70 => exact fun _ _ _ h => h
        simp only [List.set_cons_succ, List.set_cons_zero]
        refine take_at (i := 24) (d := 196) (oi := ?o71) (v := ?v71) ?hi71 ?hd71 (by kernel_rfl) (by kernel_rfl) (by kernel_rfl) ?hw71 ?hy71 ?hq71 (by assumption) ?r71
        case hi71 => (simp only [List.getElem?_toArray, List.getElem?_cons_succ, List.getElem?_cons_zero]; rfl)
        case hd71 => rfl
        case hw71 => rfl
        case hy71 => ((intro w hSw; (try dsimp only at hSw); obtain ⟨k0, k1, k2⟩ := (X0.out _ hSw).cells; go_simp) <;> (with_reducible rfl))
        case hq71 => exact fun _ _ _ h => h
        simp only [List.set_cons_succ, List.set_cons_zero]
        refine take_at (i := 25) (d := 197) (oi := ?o72) (v := ?v72) ?hi72 ?hd72 (by kernel_rfl) (by kernel_rfl) (by kernel_rfl) ?hw72 ?hy72 ?hq72 (by assumption) ?r72
        case hi72 => (simp only [List.getElem?_toArray, List.getElem?_cons_succ, List.getElem?_cons_zero]; rfl)
        case hd72 => rfl
        case hw72 => rfl
        case hy72 => ((intro w hSw; (try dsimp only at hSw); go_simp) <;> (with_reducible rfl))
        case hq72 => exact fun _ _ _ h => h
        simp only [List.set_cons_succ, List.set_cons_zero]
        refine take_at (i := 26) (d := 198) (oi := ?o73) (v := ?v73) ?hi73 ?hd73 (by kernel_rfl) (by kernel_rfl) (by kernel_rfl) ?hw73 ?hy73 ?hq73 (by assumption) ?r73
        case hi73 => (simp only [List.getElem?_toArray, List.getElem?_cons_succ, List.getElem?_cons_zero]; rfl)
        case hd73 => rfl
        case hw73 => rfl
        case hy73 => ((intro w hSw; (try dsimp only at hSw); go_simp) <;> (with_reducible rfl))
        case hq73 => exact fun _ _ _ h => h
        simp only [List.set_cons_succ, List.set_cons_zero]
        refine take_at (i := 27) (d := 199) (oi := ?o74) (v := ?v74) ?hi74 ?hd74 (by kernel_rfl) (by kernel_rfl) (by kernel_rfl) ?hw74 ?hy74 ?hq74 (by assumption) ?r74
        case hi74 => (simp only [List.getElem?_toArray, List.getElem?_cons_succ, List.getElem?_cons_zero]; rfl)
        case hd74 => rfl
        case hw74 => rfl
        case hy74 => ((intro w hSw; (try dsimp only at hSw); go_simp) <;> (with_reducible rfl))
        case hq74 => exact fun _ _ _ h => h
        simp only [List.set_cons_succ, List.set_cons_zero]
        refine take_at (i := 28) (d := 200) (oi := ?o75) (v := ?v75) ?hi75 ?hd75 (by kernel_rfl) (by kernel_rfl) (by kernel_rfl) ?hw75 ?hy75 ?hq75 (by assumption) ?r75
        case hi75 => (simp only [List.getElem?_toArray, List.getElem?_cons_succ, List.getElem?_cons_zero]; rfl)
        case hd75 => rfl
        case hw75 => rfl
        case hy75 => ((intro w hSw; (try dsimp only at hSw); go_simp) <;> (with_reducible rfl))
        case hq75 => exact fun _ _ _ h => h
        simp only [List.set_cons_succ, List.set_cons_zero]
        refine take_at (i := 29) (d := 201) (oi := ?o76) (v := ?v76) ?hi76 ?hd76 (by kernel_rfl) (by kernel_rfl) (by kernel_rfl) ?hw76 ?hy76 ?hq76 (by assumption) ?r76
        case hi76 => (simp only [List.getElem?_toArray, List.getElem?_cons_succ, List.getElem?_cons_zero]; rfl)
        case hd76 => rfl
        case hw76 => rfl
        case hy76 => ((intro w hSw; (try dsimp only at hSw); obtain ⟨k0, k1, k2⟩ := (X0.out _ hSw).cells; go_simp) <;> (with_reducible rfl))
        case hq76 => exact fun _ _ _ h => h
        simp only [List.set_cons_succ, List.set_cons_zero]
        refine take_at (i := 30) (d := 202) (oi := ?o77) (v := ?v77) ?hi77 ?hd77 (by kernel_rfl) (by kernel_rfl) (by kernel_rfl) ?hw77 ?hy77 ?hq77 (by assumption) ?r77
        case hi77 => (simp only [List.getElem?_toArray, List.getElem?_cons_succ, List.getElem?_cons_zero]; rfl)
        case hd77 => rfl
        case hw77 => rfl
        case hy77 => ((intro w hSw; (try dsimp only at hSw); go_simp) <;> (with_reducible rfl))
        case hq77 => exact fun _ _ _ h => h
        simp only [List.set_cons_succ, List.set_cons_zero]
        refine take_at (i := 31) (d := 203) (oi := ?o78) (v := ?v78) ?hi78 ?hd78 (by kernel_rfl) (by kernel_rfl) (by kernel_rfl) ?hw78 ?hy78 ?hq78 (by assumption) ?r78
        case hi78 => (simp only [List.getElem?_toArray, List.getElem?_cons_succ, List.getElem?_cons_zero]; rfl)
        case hd78 => rfl
        case hw78 => rfl
        case hy78 => ((intro w hSw; (try dsimp only at hSw); go_simp) <;> (with_reducible rfl))
        case hq78 => exact fun _ _ _ h => h
        simp only [List.set_cons_succ, List.set_cons_zero]
        refine call_at (i := 32) (d := 204) (oi := ?o79) (f := ?f79) (args := ?a79) ?hi79 ?hd79 (by kernel_rfl) ?hw79 ?he79 ?hc79
        case hi79 => (simp only [List.getElem?_toArray, List.getElem?_cons_succ, List.getElem?_cons_zero]; rfl)
        case hd79 => rfl
        case hw79 => rfl
        case he79 => (go_simp; constructor <;> with_reducible rfl)
        have em := alike_self t A1 u c1 (B.take u) _ HS.out.2.1 ((HT.out.on HX.out.2.2.2).on hHeld) ((HX.out.2.2.1.first hu4).on hHeld hHeld.size) hu3 hu2 HL.out.2
        refine em.mono ?_
        rintro r wv ⟨rfl, hb1⟩
        have kb : Below w6.heap.size w6 wv := hHeld.trans (hb1.mono hHeld.size)
        clear em
        refine ⟨_, rfl, kb, fun hHeld => ?_⟩
        simp only [List.set_cons_succ, List.set_cons_zero]
        refine take_at (i := 33) (d := 205) (oi := ?o80) (v := ?v80) ?hi80 ?hd80 (by kernel_rfl) (by kernel_rfl) (by kernel_rfl) ?hw80 ?hy80 ?hq80 (by assumption) ?r80
        case hi80 => (simp only [List.getElem?_toArray, List.getElem?_cons_succ, List.getElem?_cons_zero]; rfl)
        case hd80 => rfl
        case hw80 => rfl
        case hy80 => ((intro w hSw; (try dsimp only at hSw); go_simp) <;> (with_reducible rfl))
        case hq80 => exact fun _ _ _ h => h
        simp only [List.set_cons_succ, List.set_cons_zero]
        refine take_at (i := 34) (d := 206) (oi := ?o81) (v := ?v81) ?hi81 ?hd81 (by kernel_rfl) (by kernel_rfl) (by kernel_rfl) ?hw81 ?hy81 ?hq81 (by assumption) ?r81
        case hi81 => (simp only [List.getElem?_toArray, List.getElem?_cons_succ, List.getElem?_cons_zero]; rfl)
        case hd81 => rfl
        case hw81 => rfl
        case hy81 => ((intro w hSw; (try dsimp only at hSw); go_simp) <;> (with_reducible rfl))
        case hq81 => exact fun _ _ _ h => h
        simp only [List.set_cons_succ, List.set_cons_zero]
        refine call_at (i := 35) (d := 207) (oi := ?o82) (f := ?f82) (args := ?a82) ?hi82 ?hd82 (by kernel_rfl) ?hw82 ?he82 ?hc82
        case hi82 => (simp only [List.getElem?_toArray, List.getElem?_cons_succ, List.getElem?_cons_zero]; rfl)
        case hd82 => rfl
        case hw82 => rfl
        case he82 => (go_simp; constructor <;> with_reducible rfl)
        have em := wakes_true _ ((HT.out.on HX.out.2.2.2).on hHeld)
        refine em.mono ?_
        rintro r wv ⟨rfl, hb1⟩
        have kb : Below w6.heap.size w6 wv := hHeld.trans (hb1.mono hHeld.size)
        clear em
        refine ⟨_, rfl, kb, fun hHeld => ?_⟩
        simp only [List.set_cons_succ, List.set_cons_zero]
        refine take_at (i := 36) (d := 208) (oi := ?o83) (v := ?v83) ?hi83 ?hd83 (by kernel_rfl) (by kernel_rfl) (by kernel_rfl) ?hw83 ?hy83 ?hq83 (by assumption) ?r83
        case hi83 => (simp only [List.getElem?_toArray, List.getElem?_cons_succ, List.getElem?_cons_zero]; rfl)
        case hd83 => rfl
        case hw83 => rfl
        case hy83 => ((intro w hSw; (try dsimp only at hSw); go_simp) <;> (with_reducible rfl))
        case hq83 => exact fun _ _ _ h => h
        simp only [List.set_cons_succ, List.set_cons_zero]
        refine take_at (i := 37) (d := 8) (oi := ?o84) (v := ?v84) ?hi84 ?hd84 (by kernel_rfl) (by kernel_rfl) (by kernel_rfl) ?hw84 ?hy84 ?hq84 (by assumption) ?r84
        case hi84 => (simp only [List.getElem?_toArray, List.getElem?_cons_succ, List.getElem?_cons_zero]; rfl)
        case hd84 => rfl
        case hw84 => rfl
        case hy84 => ((intro w hSw; (try dsimp only at hSw); go_simp) <;> (with_reducible rfl))
        case hq84 => exact fun _ _ _ h => h
        simp only [List.set_cons_succ, List.set_cons_zero]
        refine wpAnyH_done (by kernel_rfl) ?_ _
        go_wp2_with fail
        go_ret
        exact ⟨rfl, HX.out.2.2.2.trans (hHeld.mono HX.out.2.2.2.size)⟩
      · have q38 : ((p : Int) == (q : Int)) = false := by simp; omega
        clear hpq2
        refine wp_region_held_drew (S := (fun W => Below w6.heap.size w6 W)) (by kernel_rfl) (below_dr (below_d0 _)) (fun hHeld => ?_)
        refine take_at (i := 0) (d := 122) (oi := ?o85) (v := ?v85) ?hi85 ?hd85 (by kernel_rfl) (by kernel_rfl) (by kernel_rfl) ?hw85 ?hy85 ?hq85 (by assumption) ?r85
        case hi85 => (simp only [List.getElem?_toArray, List.getElem?_cons_zero]; rfl)
        case hd85 => rfl
        case hw85 => rfl
        case hy85 => ((intro w hSw; (try dsimp only at hSw); go_simp) <;> (with_reducible rfl))
        case hq85 => exact fun _ _ _ h => h
        simp only [List.set_cons_succ, List.set_cons_zero]
        refine take_at (i := 1) (d := 123) (oi := ?o86) (v := ?v86) ?hi86 ?hd86 (by kernel_rfl) (by kernel_rfl) (by kernel_rfl) ?hw86 ?hy86 ?hq86 (by assumption) ?r86
        case hi86 => (simp only [List.getElem?_toArray, List.getElem?_cons_succ, List.getElem?_cons_zero]; rfl)
        case hd86 => rfl
        case hw86 => rfl
        case hy86 => ((intro w hSw; (try dsimp only at hSw); obtain ⟨k0, k1, k2⟩ := (X0.out _ hSw).cells; go_simp) <;> (with_reducible rfl))
        case hq86 => exact fun _ _ _ h => h
        simp only [List.set_cons_succ, List.set_cons_zero]
        refine take_at (i := 2) (d := 124) (oi := ?o87) (v := ?v87) ?hi87 ?hd87 (by kernel_rfl) (by kernel_rfl) (by kernel_rfl) ?hw87 ?hy87 ?hq87 (by assumption) ?r87
        case hi87 => (simp only [List.getElem?_toArray, List.getElem?_cons_succ, List.getElem?_cons_zero]; rfl)
        case hd87 => rfl
        case hw87 => rfl
        case hy87 => ((intro w hSw; (try dsimp only at hSw); go_simp) <;> (with_reducible rfl))
        case hq87 => exact fun _ _ _ h => h
        simp only [List.set_cons_succ, List.set_cons_zero]
        refine take_at (i := 3) (d := 125) (oi := ?o88) (v := ?v88) ?hi88 ?hd88 (by kernel_rfl) (by kernel_rfl) (by kernel_rfl) ?hw88 ?hy88 ?hq88 (by assumption) ?r88
        case hi88 => (simp only [List.getElem?_toArray, List.getElem?_cons_succ, List.getElem?_cons_zero]; rfl)
        case hd88 => rfl
        case hw88 => rfl
        case hy88 => ((intro w hSw; (try dsimp only at hSw); go_simp) <;> (with_reducible rfl))
        case hq88 => exact fun _ _ _ h => h
        simp only [List.set_cons_succ, List.set_cons_zero]
        refine take_at (i := 4) (d := 126) (oi := ?o89) (v := ?v89) ?hi89 ?hd89 (by kernel_rfl) (by kernel_rfl) (by kernel_rfl) ?hw89 ?hy89 ?hq89 (by assumption) ?r89
        case hi89 => (simp only [List.getElem?_toArray, List.getElem?_cons_succ, List.getElem?_cons_zero]; rfl)
        case hd89 => rfl
        case hw89 => rfl
        case hy89 => ((intro w hSw; (try dsimp only at hSw); go_simp) <;> (with_reducible rfl))
        case hq89 => exact fun _ _ _ h => h
        simp only [List.set_cons_succ, List.set_cons_zero]
        refine take_at (i := 5) (d := 127) (oi := ?o90) (v := ?v90) ?hi90 ?hd90 (by kernel_rfl) (by kernel_rfl) (by kernel_rfl) ?hw90 ?hy90 ?hq90 (by assumption) ?r90
        case hi90 => (simp only [List.getElem?_toArray, List.getElem?_cons_succ, List.getElem?_cons_zero]; rfl)
        case hd90 => rfl
        case hw90 => rfl
        case hy90 => ((intro w hSw; (try dsimp only at hSw); go_simp) <;> (with_reducible rfl))
        case hq90 => exact fun _ _ _ h => h
        simp only [List.set_cons_succ, List.set_cons_zero]
        refine take_at (i := 6) (d := 128) (oi := ?o91) (v := ?v91) ?hi91 ?hd91 (by kernel_rfl) (by kernel_rfl) (by kernel_rfl) ?hw91 ?hy91 ?hq91 (by assumption) ?r91
        case hi91 => (simp only [List.getElem?_toArray, List.getElem?_cons_succ, List.getElem?_cons_zero]; rfl)
        case hd91 => rfl
        case hw91 => rfl
        case hy91 => ((intro w hSw; (try dsimp only at hSw); obtain ⟨k0, k1, k2⟩ := (X0.out _ hSw).cells; go_simp) <;> (with_reducible rfl))
        case hq91 => exact fun _ _ _ h => h
        simp only [List.set_cons_succ, List.set_cons_zero]
        refine take_at (i := 7) (d := 129) (oi := ?o92) (v := ?v92) ?hi92 ?hd92 (by kernel_rfl) (by kernel_rfl) (by kernel_rfl) ?hw92 ?hy92 ?hq92 (by assumption) ?r92
        case hi92 => (simp only [List.getElem?_toArray, List.getElem?_cons_succ, List.getElem?_cons_zero]; rfl)
        case hd92 => rfl
        case hw92 => rfl
        case hy92 => ((intro w hSw; (try dsimp only at hSw); go_simp) <;> (with_reducible rfl))
        case hq92 => exact fun _ _ _ h => h
        simp only [List.set_cons_succ, List.set_cons_zero]
        refine take_at (i := 8) (d := 130) (oi := ?o93) (v := ?v93) ?hi93 ?hd93 (by kernel_rfl) (by kernel_rfl) (by kernel_rfl) ?hw93 ?hy93 ?hq93 (by assumption) ?r93
        case hi93 => (simp only [List.getElem?_toArray, List.getElem?_cons_succ, List.getElem?_cons_zero]; rfl)
        case hd93 => rfl
        case hw93 => rfl
        case hy93 => ((intro w hSw; (try dsimp only at hSw); go_simp) <;> (with_reducible rfl))
        case hq93 => exact fun _ _ _ h => h
        simp only [List.set_cons_succ, List.set_cons_zero]
        refine take_at (i := 9) (d := 131) (oi := ?o94) (v := ?v94) ?hi94 ?hd94 (by kernel_rfl) (by kernel_rfl) (by kernel_rfl) ?hw94 ?hy94 ?hq94 (by assumption) ?r94
        case hi94 => (simp only [List.getElem?_toArray, List.getElem?_cons_succ, List.getElem?_cons_zero]; rfl)
        case hd94 => rfl
        case hw94 => rfl
        case hy94 => ((intro w hSw; (try dsimp only at hSw); go_simp) <;> (with_reducible rfl))
        case hq94 => exact fun _ _ _ h => h
        simp only [List.set_cons_succ, List.set_cons_zero]
        refine take_at (i := 10) (d := 132) (oi := ?o95) (v := ?v95) ?hi95 ?hd95 (by kernel_rfl) (by kernel_rfl) (by kernel_rfl) ?hw95 ?hy95 ?hq95 (by assumption) ?r95
        case hi95 => (simp only [List.getElem?_toArray, List.getElem?_cons_succ, List.getElem?_cons_zero]; rfl)
        case hd95 => rfl
        case hw95 => rfl
        case hy95 => ((intro w hSw; (try dsimp only at hSw); go_simp) <;> (with_reducible rfl))
        case hq95 => exact fun _ _ _ h => h
        simp only [List.set_cons_succ, List.set_cons_zero]
        refine take_at (i := 11) (d := 133) (oi := ?o96) (v := ?v96) ?hi96 ?hd96 (by kernel_rfl) (by kernel_rfl) (by kernel_rfl) ?hw96 ?hy96 ?hq96 (by assumption) ?r96
        case hi96 => (simp only [List.getElem?_toArray, List.getElem?_cons_succ, List.getElem?_cons_zero]; rfl)
        case hd96 => rfl
        case hw96 => rfl
        case hy96 => ((intro w hSw; (try dsimp only at hSw); go_simp) <;> (with_reducible rfl))
        case hq96 => exact fun _ _ _ h => h
        simp only [List.set_cons_succ, List.set_cons_zero]
        refine take_at (i := 12) (d := 134) (oi := ?o97) (v := ?v97) ?hi97 ?hd97 (by kernel_rfl) (by kernel_rfl) (by kernel_rfl) ?hw97 ?hy97 ?hq97 (by assumption) ?r97
        case hi97 => (simp only [List.getElem?_toArray, List.getElem?_cons_succ, List.getElem?_cons_zero]; rfl)
        case hd97 => rfl
        case hw97 => rfl
        case hy97 => ((intro w hSw; (try dsimp only at hSw); obtain ⟨k0, k1, k2⟩ := (X0.out _ hSw).cells; go_simp) <;> (with_reducible rfl))
        case hq97 => exact fun _ _ _ h => h
        simp only [List.set_cons_succ, List.set_cons_zero]
        refine take_at (i := 13) (d := 135) (oi := ?o98) (v := ?v98) ?hi98 ?hd98 (by kernel_rfl) (by kernel_rfl) (by kernel_rfl) ?hw98 ?hy98 ?hq98 (by assumption) ?r98
        case hi98 => (simp only [List.getElem?_toArray, List.getElem?_cons_succ, List.getElem?_cons_zero]; rfl)
        case hd98 => rfl
        case hw98 => rfl
        case hy98 => ((intro w hSw; (try dsimp only at hSw); go_simp) <;> (with_reducible rfl))
        case hq98 => exact fun _ _ _ h => h
        simp only [List.set_cons_succ, List.set_cons_zero]
        refine take_at (i := 14) (d := 136) (oi := ?o99) (v := ?v99) ?hi99 ?hd99 (by kernel_rfl) (by kernel_rfl) (by kernel_rfl) ?hw99 ?hy99 ?hq99 (by assumption) ?r99
        case hi99 => (simp only [List.getElem?_toArray, List.getElem?_cons_succ, List.getElem?_cons_zero]; rfl)
        case hd99 => rfl
        case hw99 => rfl
        case hy99 => ((intro w hSw; (try dsimp only at hSw); go_simp) <;> (with_reducible rfl))
        case hq99 => exact fun _ _ _ h => h
        simp only [List.set_cons_succ, List.set_cons_zero]
        refine take_at (i := 15) (d := 137) (oi := ?o100) (v := ?v100) ?hi100 ?hd100 (by kernel_rfl) (by kernel_rfl) (by kernel_rfl) ?hw100 ?hy100 ?hq100 (by assumption) ?r100
        case hi100 => (simp only [List.getElem?_toArray, List.getElem?_cons_succ, List.getElem?_cons_zero]; rfl)
        case hd100 => rfl
        case hw100 => rfl
        case hy100 => ((intro w hSw; (try dsimp only at hSw); go_simp) <;> (with_reducible rfl))
        case hq100 => exact fun _ _ _ h => h
        simp only [List.set_cons_succ, List.set_cons_zero]
        refine take_at (i := 16) (d := 138) (oi := ?o101) (v := ?v101) ?hi101 ?hd101 (by kernel_rfl) (by kernel_rfl) (by kernel_rfl) ?hw101 ?hy101 ?hq101 (by assumption) ?r101
        case hi101 => (simp only [List.getElem?_toArray, List.getElem?_cons_succ, List.getElem?_cons_zero]; rfl)
        case hd101 => rfl
        case hw101 => rfl
        case hy101 => ((intro w hSw; (try dsimp only at hSw); go_simp) <;> (with_reducible rfl))
        case hq101 => exact fun _ _ _ h => h
        simp only [List.set_cons_succ, List.set_cons_zero]
        refine take_at (i := 17) (d := 139) (oi := ?o102) (v := ?v102) ?hi102 ?hd102 (by kernel_rfl) (by kernel_rfl) (by kernel_rfl) ?hw102 ?hy102 ?hq102 (by assumption) ?r102
        case hi102 => (simp only [List.getElem?_toArray, List.getElem?_cons_succ, List.getElem?_cons_zero]; rfl)
        case hd102 => rfl
        case hw102 => rfl
        case hy102 => ((intro w hSw; (try dsimp only at hSw); obtain ⟨k0, k1, k2⟩ := (X0.out _ hSw).cells; go_simp) <;> (with_reducible rfl))
        case hq102 => exact fun _ _ _ h => h
        simp only [List.set_cons_succ, List.set_cons_zero]
        refine take_at (i := 18) (d := 140) (oi := ?o103) (v := ?v103) ?hi103 ?hd103 (by kernel_rfl) (by kernel_rfl) (by kernel_rfl) ?hw103 ?hy103 ?hq103 (by assumption) ?r103
        case hi103 => (simp only [List.getElem?_toArray, List.getElem?_cons_succ, List.getElem?_cons_zero]; rfl)
        case hd103 => rfl
        case hw103 => rfl
        case hy103 => ((intro w hSw; (try dsimp only at hSw); go_simp) <;> (with_reducible rfl))
        case hq103 => exact fun _ _ _ h => h
        simp only [List.set_cons_succ, List.set_cons_zero]
        refine take_at (i := 19) (d := 141) (oi := ?o104) (v := ?v104) ?hi104 ?hd104 (by kernel_rfl) (by kernel_rfl) (by kernel_rfl) ?hw104 ?hy104 ?hq104 (by assumption) ?r104
        case hi104 => (simp only [List.getElem?_toArray, List.getElem?_cons_succ, List.getElem?_cons_zero]; rfl)
        case hd104 => rfl
        case hw104 => rfl
        case hy104 => ((intro w hSw; (try dsimp only at hSw); go_simp) <;> (with_reducible rfl))
        case hq104 => exact fun _ _ _ h => h
        simp only [List.set_cons_succ, List.set_cons_zero]
        refine take_at (i := 20) (d := 142) (oi := ?o105) (v := ?v105) ?hi105 ?hd105 (by kernel_rfl) (by kernel_rfl) (by kernel_rfl) ?hw105 ?hy105 ?hq105 (by assumption) ?r105
        case hi105 => (simp only [List.getElem?_toArray, List.getElem?_cons_succ, List.getElem?_cons_zero]; rfl)
        case hd105 => rfl
        case hw105 => rfl
        case hy105 => ((intro w hSw; (try dsimp only at hSw); go_simp) <;> (with_reducible rfl))
        case hq105 => exact fun _ _ _ h => h
        simp only [List.set_cons_succ, List.set_cons_zero]
        refine take_at (i := 21) (d := 143) (oi := ?o106) (v := ?v106) ?hi106 ?hd106 (by kernel_rfl) (by kernel_rfl) (by kernel_rfl) ?hw106 ?hy106 ?hq106 (by assumption) ?r106
        case hi106 => (simp only [List.getElem?_toArray, List.getElem?_cons_succ, List.getElem?_cons_zero]; rfl)
        case hd106 => rfl
        case hw106 => rfl
        case hy106 => ((intro w hSw; (try dsimp only at hSw); go_simp) <;> (with_reducible rfl))
        case hq106 => exact fun _ _ _ h => h
        simp only [List.set_cons_succ, List.set_cons_zero]
        refine take_at (i := 22) (d := 144) (oi := ?o107) (v := ?v107) ?hi107 ?hd107 (by kernel_rfl) (by kernel_rfl) (by kernel_rfl) ?hw107 ?hy107 ?hq107 (by assumption) ?r107
        case hi107 => (simp only [List.getElem?_toArray, List.getElem?_cons_succ, List.getElem?_cons_zero]; rfl)
        case hd107 => rfl
        case hw107 => rfl
        case hy107 => ((intro w hSw; (try dsimp only at hSw); go_simp) <;> (with_reducible rfl))
        case hq107 => exact fun _ _ _ h => h
        simp only [List.set_cons_succ, List.set_cons_zero]
        refine take_at (i := 23) (d := 145) (oi := ?o108) (v := ?v108) ?hi108 ?hd108 (by kernel_rfl) (by kernel_rfl) (by kernel_rfl) ?hw108 ?hy108 ?hq108 (by assumption) ?r108
        case hi108 => (simp only [List.getElem?_toArray, List.getElem?_cons_succ, List.getElem?_cons_zero]; rfl)
        case hd108 => rfl
        case hw108 => rfl
        case hy108 => ((intro w hSw; (try dsimp only at hSw); go_simp) <;> (with_reducible rfl))
        case hq108 => exact fun _ _ _ h => h
        simp only [List.set_cons_succ, List.set_cons_zero]
        refine take_at (i := 24) (d := 146) (oi := ?o109) (v := ?v109) ?hi109 ?hd109 (by kernel_rfl) (by kernel_rfl) (by kernel_rfl) ?hw109 ?hy109 ?hq109 (by assumption) ?r109
        case hi109 => (simp only [List.getElem?_toArray, List.getElem?_cons_succ, List.getElem?_cons_zero]; rfl)
        case hd109 => rfl
        case hw109 => rfl
        case hy109 => ((intro w hSw; (try dsimp only at hSw); go_simp) <;> (with_reducible rfl))
        case hq109 => exact fun _ _ _ h => h
        simp only [List.set_cons_succ, List.set_cons_zero]
        refine take_at (i := 25) (d := 147) (oi := ?o110) (v := ?v110) ?hi110 ?hd110 (by kernel_rfl) (by kernel_rfl) (by kernel_rfl) ?hw110 ?hy110 ?hq110 (by assumption) ?r110
        case hi110 => (simp only [List.getElem?_toArray, List.getElem?_cons_succ, List.getElem?_cons_zero]; rfl)
        case hd110 => rfl
        case hw110 => rfl
        case hy110 => ((intro w hSw; (try dsimp only at hSw); obtain ⟨k0, k1, k2⟩ := (X0.out _ hSw).cells; go_simp) <;> (with_reducible rfl))
        case hq110 => exact fun _ _ _ h => h
        simp only [List.set_cons_succ, List.set_cons_zero]
        refine take_at (i := 26) (d := 148) (oi := ?o111) (v := ?v111) ?hi111 ?hd111 (by kernel_rfl) (by kernel_rfl) (by kernel_rfl) ?hw111 ?hy111 ?hq111 (by assumption) ?r111
        case hi111 => (simp only [List.getElem?_toArray, List.getElem?_cons_succ, List.getElem?_cons_zero]; rfl)
        case hd111 => rfl
        case hw111 => rfl
        case hy111 => ((intro w hSw; (try dsimp only at hSw); go_simp) <;> (with_reducible rfl))
        case hq111 => exact fun _ _ _ h => h
        simp only [List.set_cons_succ, List.set_cons_zero]
        refine take_at (i := 27) (d := 149) (oi := ?o112) (v := ?v112) ?hi112 ?hd112 (by kernel_rfl) (by kernel_rfl) (by kernel_rfl) ?hw112 ?hy112 ?hq112 (by assumption) ?r112
        case hi112 => (simp only [List.getElem?_toArray, List.getElem?_cons_succ, List.getElem?_cons_zero]; rfl)
        case hd112 => rfl
        case hw112 => rfl
        case hy112 => ((intro w hSw; (try dsimp only at hSw); go_simp) <;> (with_reducible rfl))
        case hq112 => exact fun _ _ _ h => h
        simp only [List.set_cons_succ, List.set_cons_zero]
        refine take_at (i := 28) (d := 150) (oi := ?o113) (v := ?v113) ?hi113 ?hd113 (by kernel_rfl) (by kernel_rfl) (by kernel_rfl) ?hw113 ?hy113 ?hq113 (by assumption) ?r113
        case hi113 => (simp only [List.getElem?_toArray, List.getElem?_cons_succ, List.getElem?_cons_zero]; rfl)
        case hd113 => rfl
        case hw113 => rfl
        case hy113 => ((intro w hSw; (try dsimp only at hSw); obtain ⟨k0, k1, k2⟩ := (X0.out _ hSw).cells; go_simp) <;> (with_reducible rfl))
        case hq113 => exact fun _ _ _ h => h
        simp only [List.set_cons_succ, List.set_cons_zero]
        refine take_at (i := 29) (d := 151) (oi := ?o114) (v := ?v114) ?hi114 ?hd114 (by kernel_rfl) (by kernel_rfl) (by kernel_rfl) ?hw114 ?hy114 ?hq114 (by assumption) ?r114
        case hi114 => (simp only [List.getElem?_toArray, List.getElem?_cons_succ, List.getElem?_cons_zero]; rfl)
        case hd114 => rfl
        case hw114 => rfl
        case hy114 => ((intro w hSw; (try dsimp only at hSw); go_simp) <;> (with_reducible rfl))
        case hq114 => exact fun _ _ _ h => h
        simp only [List.set_cons_succ, List.set_cons_zero]
        refine take_at (i := 30) (d := 152) (oi := ?o115) (v := ?v115) ?hi115 ?hd115 (by kernel_rfl) (by kernel_rfl) (by kernel_rfl) ?hw115 ?hy115 ?hq115 (by assumption) ?r115
        case hi115 => (simp only [List.getElem?_toArray, List.getElem?_cons_succ, List.getElem?_cons_zero]; rfl)
        case hd115 => rfl
        case hw115 => rfl
        case hy115 => ((intro w hSw; (try dsimp only at hSw); go_simp) <;> (with_reducible rfl))
        case hq115 => exact fun _ _ _ h => h
        simp only [List.set_cons_succ, List.set_cons_zero]
        refine call_at (i := 31) (d := 153) (oi := ?o116) (f := ?f116) (args := ?a116) ?hi116 ?hd116 (by kernel_rfl) ?hw116 ?he116 ?hc116
        case hi116 => (simp only [List.getElem?_toArray, List.getElem?_cons_succ, List.getElem?_cons_zero]; rfl)
        case hd116 => rfl
        case hw116 => rfl
        case he116 => (go_simp; constructor <;> with_reducible rfl)
        have em := ents_self A8 A j c8 c (l.take j) _ (HX.out.1.on hHeld hHeld.size) (Row.on HX.out.2.1 hHeld hHeld.size) hk9
        refine em.mono ?_
        rintro r wv ⟨rfl, hb1⟩
        have kb : Below w6.heap.size w6 wv := hHeld.trans (hb1.mono hHeld.size)
        clear em
        refine ⟨_, rfl, kb, fun hHeld => ?_⟩
        simp only [List.set_cons_succ, List.set_cons_zero]
        refine take_at (i := 32) (d := 154) (oi := ?o117) (v := ?v117) ?hi117 ?hd117 (by kernel_rfl) (by kernel_rfl) (by kernel_rfl) ?hw117 ?hy117 ?hq117 (by assumption) ?r117
        case hi117 => (simp only [List.getElem?_toArray, List.getElem?_cons_succ, List.getElem?_cons_zero]; rfl)
        case hd117 => rfl
        case hw117 => rfl
        case hy117 => ((intro w hSw; (try dsimp only at hSw); go_simp) <;> (with_reducible rfl))
        case hq117 => exact fun _ _ _ h => h
        simp only [List.set_cons_succ, List.set_cons_zero]
        refine take_at (i := 33) (d := 155) (oi := ?o118) (v := ?v118) ?hi118 ?hd118 (by kernel_rfl) (by kernel_rfl) (by kernel_rfl) ?hw118 ?hy118 ?hq118 (by assumption) ?r118
        case hi118 => (simp only [List.getElem?_toArray, List.getElem?_cons_succ, List.getElem?_cons_zero]; rfl)
        case hd118 => rfl
        case hw118 => rfl
        case hy118 => ((intro w hSw; (try dsimp only at hSw); go_simp) <;> (with_reducible rfl))
        case hq118 => exact fun _ _ _ h => h
        simp only [List.set_cons_succ, List.set_cons_zero]
        refine take_at (i := 34) (d := 156) (oi := ?o119) (v := ?v119) ?hi119 ?hd119 (by kernel_rfl) (by kernel_rfl) (by kernel_rfl) ?hw119 ?hy119 ?hq119 (by assumption) ?r119
        case hi119 => (simp only [List.getElem?_toArray, List.getElem?_cons_succ, List.getElem?_cons_zero]; rfl)
        case hd119 => rfl
        case hw119 => rfl
        case hy119 => ((intro w hSw; (try dsimp only at hSw); go_simp) <;> (with_reducible rfl))
        case hq119 => exact fun _ _ _ h => h
        simp only [List.set_cons_succ, List.set_cons_zero]
        refine take_at (i := 35) (d := 157) (oi := ?o120) (v := ?v120) ?hi120 ?hd120 (by kernel_rfl) (by kernel_rfl) (by kernel_rfl) ?hw120 ?hy120 ?hq120 (by assumption) ?r120
        case hi120 => (simp only [List.getElem?_toArray, List.getElem?_cons_succ, List.getElem?_cons_zero]; rfl)
        case hd120 => rfl
        case hw120 => rfl
        case hy120 => ((intro w hSw; (try dsimp only at hSw); go_simp) <;> (with_reducible rfl))
        case hq120 => exact fun _ _ _ h => h
        simp only [List.set_cons_succ, List.set_cons_zero]
        refine take_at (i := 36) (d := 158) (oi := ?o121) (v := ?v121) ?hi121 ?hd121 (by kernel_rfl) (by kernel_rfl) (by kernel_rfl) ?hw121 ?hy121 ?hq121 (by assumption) ?r121
        case hi121 => (simp only [List.getElem?_toArray, List.getElem?_cons_succ, List.getElem?_cons_zero]; rfl)
        case hd121 => rfl
        case hw121 => rfl
        case hy121 => ((intro w hSw; (try dsimp only at hSw); go_simp) <;> (with_reducible rfl))
        case hq121 => exact fun _ _ _ h => h
        simp only [List.set_cons_succ, List.set_cons_zero]
        refine take_at (i := 37) (d := 159) (oi := ?o122) (v := ?v122) ?hi122 ?hd122 (by kernel_rfl) (by kernel_rfl) (by kernel_rfl) ?hw122 ?hy122 ?hq122 (by assumption) ?r122
        case hi122 => (simp only [List.getElem?_toArray, List.getElem?_cons_succ, List.getElem?_cons_zero]; rfl)
        case hd122 => rfl
        case hw122 => rfl
        case hy122 => ((intro w hSw; (try dsimp only at hSw); go_simp) <;> (with_reducible rfl))
        case hq122 => exact fun _ _ _ h => h
        simp only [List.set_cons_succ, List.set_cons_zero]
        refine take_at (i := 38) (d := 160) (oi := ?o123) (v := ?v123) ?hi123 ?hd123 (by kernel_rfl) (by kernel_rfl) (by kernel_rfl) ?hw123 ?hy123 ?hq123 (by assumption) ?r123
        case hi123 => (simp only [List.getElem?_toArray, List.getElem?_cons_succ, List.getElem?_cons_zero]; rfl)
        case hd123 => rfl
        case hw123 => rfl
        case hy123 => ((intro w hSw; (try dsimp only at hSw); go_simp) <;> (with_reducible rfl))
        case hq123 => exact fun _ _ _ h => h
        simp only [List.set_cons_succ, List.set_cons_zero]
        refine take_at (i := 39) (d := 161) (oi := ?o124) (v := ?v124) ?hi124 ?hd124 (by kernel_rfl) (by kernel_rfl) (by kernel_rfl) ?hw124 ?hy124 ?hq124 (by assumption) ?r124
        case hi124 => (simp only [List.getElem?_toArray, List.getElem?_cons_succ, List.getElem?_cons_zero]; rfl)
        case hd124 => rfl
        case hw124 => rfl
        case hy124 => ((intro w hSw; (try dsimp only at hSw); go_simp) <;> (with_reducible rfl))
        case hq124 => exact fun _ _ _ h => h
        simp only [List.set_cons_succ, List.set_cons_zero]
        refine skip_at (i := 40) (d := 162) (oi := ?o125) ?hi125 ?hd125 (by kernel_rfl) (by kernel_rfl) (by kernel_rfl) ?hw125 ?hq125 (by assumption) ?r125
        case hi125 => (simp only [List.getElem?_toArray, List.getElem?_cons_succ, List.getElem?_cons_zero]; rfl)
        case hd125 => rfl
        case hw125 => rfl
        case hq125 => exact fun _ _ _ h => h
        simp only [List.set_cons_succ, List.set_cons_zero]
        refine skip_at (i := 41) (d := 163) (oi := ?o126) ?hi126 ?hd126 (by kernel_rfl) (by kernel_rfl) (by kernel_rfl) ?hw126 ?hq126 (by assumption) ?r126
        case hi126 => (simp only [List.getElem?_toArray, List.getElem?_cons_succ, List.getElem?_cons_zero]; rfl)
        case hd126 => rfl
        case hw126 => rfl
        case hq126 => exact fun _ _ _ h => h
        simp only [List.set_cons_succ, List.set_cons_zero]
        refine skip_at (i := 42) (d := 164) (oi := ?o127) ?hi127 ?hd127 (by kernel_rfl) (by kernel_rfl) (by kernel_rfl) ?hw127 ?hq127 (by assumption) ?r127
        case hi127 => (simp only [List.getElem?_toArray, List.getElem?_cons_succ, List.getElem?_cons_zero]; rfl)
        case hd127 => rfl
        case hw127 => rfl
        case hq127 => exact fun _ _ _ h => h
        simp only [List.set_cons_succ, List.set_cons_zero]
        refine skip_at (i := 43) (d := 165) (oi := ?o128) ?hi128 ?hd128 (by kernel_rfl) (by kernel_rfl) (by kernel_rfl) ?hw128 ?hq128 (by assumption) ?r128
        case hi128 => (simp only [List.getElem?_toArray, List.getElem?_cons_succ, List.getElem?_cons_zero]; rfl)
        case hd128 => rfl
        case hw128 => rfl
        case hq128 => exact fun _ _ _ h => h
        simp only [List.set_cons_succ, List.set_cons_zero]
        refine take_at (i := 44) (d := 166) (oi := ?o129) (v := ?v129) ?hi129 ?hd129 (by kernel_rfl) (by kernel_rfl) (by kernel_rfl) ?hw129 ?hy129 ?hq129 (by assumption) ?r129
        case hi129 => (simp only [List.getElem?_toArray, List.getElem?_cons_succ, List.getElem?_cons_zero]; rfl)
        case hd129 => rfl
        case hw129 => rfl
        case hy129 => ((intro w hSw; (try dsimp only at hSw); go_simp) <;> (with_reducible rfl))
        case hq129 => exact fun _ _ _ h => h
        simp only [List.set_cons_succ, List.set_cons_zero]
        refine take_at (i := 45) (d := 167) (oi := ?o130) (v := ?v130) ?hi130 ?hd130 (by kernel_rfl) (by kernel_rfl) (by kernel_rfl) ?hw130 ?hy130 ?hq130 (by assumption) ?r130
        case hi130 => (simp only [List.getElem?_toArray, List.getElem?_cons_succ, List.getElem?_cons_zero]; rfl)
        case hd130 => rfl
        case hw130 => rfl
        case hy130 => ((intro w hSw; (try dsimp only at hSw); go_simp) <;> (with_reducible rfl))
        case hq130 => exact fun _ _ _ h => h
        simp only [List.set_cons_succ, List.set_cons_zero]
        refine wpAnyH_done (by kernel_rfl) ?_ _
        have hc9 := hHeld
        obtain ⟨d0, d1, d2⟩ := (X0.out _ hc9).cells
        clear hHeld
        go_wp2_with fail
        clear d0 d1 d2
        refine wp_region_held_drew (S := (fun W => Below w6.heap.size w6 W)) (by kernel_rfl) (below_dr hc9) (fun hHeld => ?_)
        refine take_at (i := 0) (d := 172) (oi := ?o131) (v := ?v131) ?hi131 ?hd131 (by kernel_rfl) (by kernel_rfl) (by kernel_rfl) ?hw131 ?hy131 ?hq131 (by assumption) ?r131
        case hi131 => (simp only [List.getElem?_toArray, List.getElem?_cons_zero]; rfl)
        case hd131 => rfl
        case hw131 => rfl
        case hy131 => ((intro w hSw; (try dsimp only at hSw); go_simp) <;> (with_reducible rfl))
        case hq131 => exact fun _ _ _ h => h
        simp only [List.set_cons_succ, List.set_cons_zero]
        refine take_at (i := 1) (d := 173) (oi := ?o132) (v := ?v132) ?hi132 ?hd132 (by kernel_rfl) (by kernel_rfl) (by kernel_rfl) ?hw132 ?hy132 ?hq132 (by assumption) ?r132
        case hi132 => (simp only [List.getElem?_toArray, List.getElem?_cons_succ, List.getElem?_cons_zero]; rfl)
        case hd132 => rfl
        case hw132 => rfl
        case hy132 => ((intro w hSw; (try dsimp only at hSw); go_simp) <;> (with_reducible rfl))
        case hq132 => exact fun _ _ _ h => h
        simp only [List.set_cons_succ, List.set_cons_zero]
        refine take_at (i := 2) (d := 174) (oi := ?o133) (v := ?v133) ?hi133 ?hd133 (by kernel_rfl) (by kernel_rfl) (by kernel_rfl) ?hw133 ?hy133 ?hq133 (by assumption) ?r133
        case hi133 => (simp only [List.getElem?_toArray, List.getElem?_cons_succ, List.getElem?_cons_zero]; rfl)
        case hd133 => rfl
        case hw133 => rfl
        case hy133 => ((intro w hSw; (try dsimp only at hSw); go_simp) <;> (with_reducible rfl))
        case hq133 => exact fun _ _ _ h => h
        simp only [List.set_cons_succ, List.set_cons_zero]
        refine take_at (i := 3) (d := 175) (oi := ?o134) (v := ?v134) ?hi134 ?hd134 (by kernel_rfl) (by kernel_rfl) (by kernel_rfl) ?hw134 ?hy134 ?hq134 (by assumption) ?r134
        case hi134 => (simp only [List.getElem?_toArray, List.getElem?_cons_succ, List.getElem?_cons_zero]; rfl)
        case hd134 => rfl
        case hw134 => rfl
        case hy134 => ((intro w hSw; (try dsimp only at hSw); go_simp) <;> (with_reducible rfl))
        case hq134 => exact fun _ _ _ h => h
        simp only [List.set_cons_succ, List.set_cons_zero]
        refine take_at (i := 4) (d := 176) (oi := ?o135) (v := ?v135) ?hi135 ?hd135 (by kernel_rfl) (by kernel_rfl) (by kernel_rfl) ?hw135 ?hy135 ?hq135 (by assumption) ?r135
        case hi135 => (simp only [List.getElem?_toArray, List.getElem?_cons_succ, List.getElem?_cons_zero]; rfl)
        case hd135 => rfl
        case hw135 => rfl
        case hy135 => ((intro w hSw; (try dsimp only at hSw); go_simp) <;> (with_reducible rfl))
        case hq135 => exact fun _ _ _ h => h
        simp only [List.set_cons_succ, List.set_cons_zero]
        refine take_at (i := 5) (d := 177) (oi := ?o136) (v := ?v136) ?hi136 ?hd136 (by kernel_rfl) (by kernel_rfl) (by kernel_rfl) ?hw136 ?hy136 ?hq136 (by assumption) ?r136
        case hi136 => (simp only [List.getElem?_toArray, List.getElem?_cons_succ, List.getElem?_cons_zero]; rfl)
        case hd136 => rfl
        case hw136 => rfl
        case hy136 => ((intro w hSw; (try dsimp only at hSw); go_simp) <;> (with_reducible rfl))
        case hq136 => exact fun _ _ _ h => h
        simp only [List.set_cons_succ, List.set_cons_zero]
        refine take_at (i := 6) (d := 178) (oi := ?o137) (v := ?v137) ?hi137 ?hd137 (by kernel_rfl) (by kernel_rfl) (by kernel_rfl) ?hw137 ?hy137 ?hq137 (by assumption) ?r137
        case hi137 => (simp only [List.getElem?_toArray, List.getElem?_cons_succ, List.getElem?_cons_zero]; rfl)
        case hd137 => rfl
        case hw137 => rfl
        case hy137 => ((intro w hSw; (try dsimp only at hSw); go_simp) <;> (with_reducible rfl))
        case hq137 => exact fun _ _ _ h => h
        simp only [List.set_cons_succ, List.set_cons_zero]
        refine take_at (i := 7) (d := 179) (oi := ?o138) (v := ?v138) ?hi138 ?hd138 (by kernel_rfl) (by kernel_rfl) (by kernel_rfl) ?hw138 ?hy138 ?hq138 (by assumption) ?r138
        case hi138 => (simp only [List.getElem?_toArray, List.getElem?_cons_succ, List.getElem?_cons_zero]; rfl)
        case hd138 => rfl
        case hw138 => rfl
        case hy138 => ((intro w hSw; (try dsimp only at hSw); go_simp) <;> (with_reducible rfl))
        case hq138 => exact fun _ _ _ h => h
        simp only [List.set_cons_succ, List.set_cons_zero]
        refine take_at (i := 8) (d := 180) (oi := ?o139) (v := ?v139) ?hi139 ?hd139 (by kernel_rfl) (by kernel_rfl) (by kernel_rfl) ?hw139 ?hy139 ?hq139 (by assumption) ?r139
        case hi139 => (simp only [List.getElem?_toArray, List.getElem?_cons_succ, List.getElem?_cons_zero]; rfl)
        case hd139 => rfl
        case hw139 => rfl
        case hy139 => ((intro w hSw; (try dsimp only at hSw); go_simp) <;> (with_reducible rfl))
        case hq139 => exact fun _ _ _ h => h
        simp only [List.set_cons_succ, List.set_cons_zero]
        refine take_at (i := 9) (d := 181) (oi := ?o140) (v := ?v140) ?hi140 ?hd140 (by kernel_rfl) (by kernel_rfl) (by kernel_rfl) ?hw140 ?hy140 ?hq140 (by assumption) ?r140
        case hi140 => (simp only [List.getElem?_toArray, List.getElem?_cons_succ, List.getElem?_cons_zero]; rfl)
        case hd140 => rfl
        case hw140 => rfl
        case hy140 => ((intro w hSw; (try dsimp only at hSw); go_simp) <;> (with_reducible rfl))
        case hq140 => exact fun _ _ _ h => h
        simp only [List.set_cons_succ, List.set_cons_zero]
        refine take_at (i := 10) (d := 182) (oi := ?o141) (v := ?v141) ?hi141 ?hd141 (by kernel_rfl) (by kernel_rfl) (by kernel_rfl) ?hw141 ?hy141 ?hq141 (by assumption) ?r141
        case hi141 => (simp only [List.getElem?_toArray, List.getElem?_cons_succ, List.getElem?_cons_zero]; rfl)
        case hd141 => rfl
        case hw141 => rfl
        case hy141 => ((intro w hSw; (try dsimp only at hSw); go_simp) <;> (with_reducible rfl))
        case hq141 => exact fun _ _ _ h => h
        simp only [List.set_cons_succ, List.set_cons_zero]
        refine take_at (i := 11) (d := 183) (oi := ?o142) (v := ?v142) ?hi142 ?hd142 (by kernel_rfl) (by kernel_rfl) (by kernel_rfl) ?hw142 ?hy142 ?hq142 (by assumption) ?r142
        case hi142 => (simp only [List.getElem?_toArray, List.getElem?_cons_succ, List.getElem?_cons_zero]; rfl)
        case hd142 => rfl
        case hw142 => rfl
        case hy142 => ((intro w hSw; (try dsimp only at hSw); go_simp) <;> (with_reducible rfl))
        case hq142 => exact fun _ _ _ h => h
        simp only [List.set_cons_succ, List.set_cons_zero]
        refine take_at (i := 12) (d := 184) (oi := ?o143) (v := ?v143) ?hi143 ?hd143 (by kernel_rfl) (by kernel_rfl) (by kernel_rfl) ?hw143 ?hy143 ?hq143 (by assumption) ?r143
        case hi143 => (simp only [List.getElem?_toArray, List.getElem?_cons_succ, List.getElem?_cons_zero]; rfl)
        case hd143 => rfl
        case hw143 => rfl
        case hy143 => ((intro w hSw; (try dsimp only at hSw); go_simp) <;> (with_reducible rfl))
        case hq143 => exact fun _ _ _ h => h
        simp only [List.set_cons_succ, List.set_cons_zero]
        refine skip_at (i := 13) (d := 185) (oi := ?o144) ?hi144 ?hd144 (by kernel_rfl) (by kernel_rfl) (by kernel_rfl) ?hw144 ?hq144 (by assumption) ?r144
        case hi144 => (simp only [List.getElem?_toArray, List.getElem?_cons_succ, List.getElem?_cons_zero]; rfl)
        case hd144 => rfl
        case hw144 => rfl
        case hq144 => exact fun _ _ _ h => h
        simp only [List.set_cons_succ, List.set_cons_zero]
        refine skip_at (i := 14) (d := 186) (oi := ?o145) ?hi145 ?hd145 (by kernel_rfl) (by kernel_rfl) (by kernel_rfl) ?hw145 ?hq145 (by assumption) ?r145
        case hi145 => (simp only [List.getElem?_toArray, List.getElem?_cons_succ, List.getElem?_cons_zero]; rfl)
        case hd145 => rfl
        case hw145 => rfl
        case hq145 => exact fun _ _ _ h => h
        simp only [List.set_cons_succ, List.set_cons_zero]
        refine skip_at (i := 15) (d := 187) (oi := ?o146) ?hi146 ?hd146 (by kernel_rfl) (by kernel_rfl) (by kernel_rfl) ?hw146 ?hq146 (by assumption) ?r146
        case hi146 => (simp only [List.getElem?_toArray, List.getElem?_cons_succ, List.getElem?_cons_zero]; rfl)
        case hd146 => rfl
        case hw146 => rfl
        case hq146 => exact fun _ _ _ h => h
        simp only [List.set_cons_succ, List.set_cons_zero]
        refine skip_at (i := 16) (d := 188) (oi := ?o147) ?hi147 ?hd147 (by kernel_rfl) (by kernel_rfl) (by kernel_rfl) ?hw147 ?hq147 (by assumption) ?r147
        case hi147 => (simp only [List.getElem?_toArray, List.getElem?_cons_succ, List.getElem?_cons_zero]; rfl)
        case hd147 => rfl
        case hw147 => rfl
        case hq147 => exact fun _ _ _ h => h
        simp only [List.set_cons_succ, List.set_cons_zero]
        refine skip_at (i := 17) (d := 189) (oi := ?o148) ?hi148 ?hd148 (by kernel_rfl) (by kernel_rfl) (by kernel_rfl) ?hw148 ?hq148 (by assumption) ?r148
        case hi148 => (simp only [List.getElem?_toArray, List.getElem?_cons_succ, List.getElem?_cons_zero]; rfl)
        case hd148 => rfl
        case hw148 => rfl
        case hq148 => exact fun _ _ _ h => h
        simp only [List.set_cons_succ, List.set_cons_zero]
        refine skip_at (i := 18) (d := 190) (oi := ?o149) ?hi149 ?hd149 (by kernel_rfl) (by kernel_rfl) (by kernel_rfl) ?hw149 ?hq149 (by assumption) ?r149
        case hi149 => (simp only [List.getElem?_toArray, List.getElem?_cons_succ, List.getElem?_cons_zero]; rfl)
        case hd149 => rfl
        case hw149 => rfl
        case hq149 => exact fun _ _ _ h => h
        simp only [List.set_cons_succ, List.set_cons_zero]
        refine take_at (i := 19) (d := 191) (oi := ?o150) (v := ?v150) ?hi150 ?hd150 (by kernel_rfl) (by kernel_rfl) (by kernel_rfl) ?hw150 ?hy150 ?hq150 (by assumption) ?r150
        case hi150 => (simp only [List.getElem?_toArray, List.getElem?_cons_succ, List.getElem?_cons_zero]; rfl)
        case hd150 => rfl
        case hw150 => rfl
        case hy150 => ((intro w hSw; (try dsimp only at hSw); go_simp) <;> (with_reducible rfl))
        case hq150 => exact fun _ _ _ h => h
        simp only [List.set_cons_succ, List.set_cons_zero]
        refine take_at (i := 20) (d := 192) (oi := ?o151) (v := ?v151) ?hi151 ?hd151 (by kernel_rfl) (by kernel_rfl) (by kernel_rfl) ?hw151 ?hy151 ?hq151 (by assumption) ?r151
        case hi151 => (simp only [List.getElem?_toArray, List.getElem?_cons_succ, List.getElem?_cons_zero]; rfl)
        case hd151 => rfl
        case hw151 => rfl
        case hy151 => ((intro w hSw; (try dsimp only at hSw); go_simp) <;> (with_reducible rfl))
        case hq151 => exact fun _ _ _ h => h
        simp only [List.set_cons_succ, List.set_cons_zero]
        refine take_at (i := 21) (d := 193) (oi := ?o152) (v := ?v152) ?hi152 ?hd152 (by kernel_rfl) (by kernel_rfl) (by kernel_rfl) ?hw152 ?hy152 ?hq152 (by assumption) ?r152
        case hi152 => (simp only [List.getElem?_toArray, List.getElem?_cons_succ, List.getElem?_cons_zero]; rfl)
        case hd152 => rfl
        case hw152 => rfl
        case hy152 => ((intro w hSw; (try dsimp only at hSw); go_simp) <;> (with_reducible rfl))
        case hq152 => exact fun _ _ _ h => h
        simp only [List.set_cons_succ, List.set_cons_zero]
        refine take_at (i := 22) (d := 194) (oi := ?o153) (v := ?v153) ?hi153 ?hd153 (by kernel_rfl) (by kernel_rfl) (by kernel_rfl) ?hw153 ?hy153 ?hq153 (by assumption) ?r153
        case hi153 => (simp only [List.getElem?_toArray, List.getElem?_cons_succ, List.getElem?_cons_zero]; rfl)
        case hd153 => rfl
        case hw153 => rfl
        case hy153 => ((intro w hSw; (try dsimp only at hSw); go_simp) <;> (with_reducible rfl))
        case hq153 => exact fun _ _ _ h => h
        simp only [List.set_cons_succ, List.set_cons_zero]
        refine take_at (i := 23) (d := 195) (oi := ?o154) (v := ?v154) ?hi154 ?hd154 (by kernel_rfl) (by kernel_rfl) (by kernel_rfl) ?hw154 ?hy154 ?hq154 (by assumption) ?r154
        case hi154 => (simp only [List.getElem?_toArray, List.getElem?_cons_succ, List.getElem?_cons_zero]; rfl)
        case hd154 => rfl
        case hw154 => rfl
        case hy154 => ((intro w hSw; (try dsimp only at hSw); go_simp) <;> (with_reducible rfl))
        case hq154 => exact fun _ _ _ h => h
        simp only [List.set_cons_succ, List.set_cons_zero]
        refine take_at (i := 24) (d := 196) (oi := ?o155) (v := ?v155) ?hi155 ?hd155 (by kernel_rfl) (by kernel_rfl) (by kernel_rfl) ?hw155 ?hy155 ?hq155 (by assumption) ?r155
        case hi155 => (simp only [List.getElem?_toArray, List.getElem?_cons_succ, List.getElem?_cons_zero]; rfl)
        case hd155 => rfl
        case hw155 => rfl
        case hy155 => ((intro w hSw; (try dsimp only at hSw); obtain ⟨k0, k1, k2⟩ := (X0.out _ hSw).cells; go_simp) <;> (with_reducible rfl))
        case hq155 => exact fun _ _ _ h => h
        simp only [List.set_cons_succ, List.set_cons_zero]
        refine take_at (i := 25) (d := 197) (oi := ?o156) (v := ?v156) ?hi156 ?hd156 (by kernel_rfl) (by kernel_rfl) (by kernel_rfl) ?hw156 ?hy156 ?hq156 (by assumption) ?r156
        case hi156 => (simp only [List.getElem?_toArray, List.getElem?_cons_succ, List.getElem?_cons_zero]; rfl)
        case hd156 => rfl
        case hw156 => rfl
        case hy156 => ((intro w hSw; (try dsimp only at hSw); go_simp) <;> (with_reducible rfl))
        case hq156 => exact fun _ _ _ h => h
        simp only [List.set_cons_succ, List.set_cons_zero]
        refine take_at (i := 26) (d := 198) (oi := ?o157) (v := ?v157) ?hi157 ?hd157 (by kernel_rfl) (by kernel_rfl) (by kernel_rfl) ?hw157 ?hy157 ?hq157 (by assumption) ?r157
        case hi157 => (simp only [List.getElem?_toArray, List.getElem?_cons_succ, List.getElem?_cons_zero]; rfl)
        case hd157 => rfl
        case hw157 => rfl
        case hy157 => ((intro w hSw; (try dsimp only at hSw); go_simp) <;> (with_reducible rfl))
        case hq157 => exact fun _ _ _ h => h
        simp only [List.set_cons_succ, List.set_cons_zero]
        refine take_at (i := 27) (d := 199) (oi := ?o158) (v := ?v158) ?hi158 ?hd158 (by kernel_rfl) (by kernel_rfl) (by kernel_rfl) ?hw158 ?hy158 ?hq158 (by assumption) ?r158
        case hi158 => (simp only [List.getElem?_toArray, List.getElem?_cons_succ, List.getElem?_cons_zero]; rfl)
        case hd158 => rfl
        case hw158 => rfl
        case hy158 => ((intro w hSw; (try dsimp only at hSw); go_simp) <;> (with_reducible rfl))
        case hq158 => exact fun _ _ _ h => h
        simp only [List.set_cons_succ, List.set_cons_zero]
        refine take_at (i := 28) (d := 200) (oi := ?o159) (v := ?v159) ?hi159 ?hd159 (by kernel_rfl) (by kernel_rfl) (by kernel_rfl) ?hw159 ?hy159 ?hq159 (by assumption) ?r159
        case hi159 => (simp only [List.getElem?_toArray, List.getElem?_cons_succ, List.getElem?_cons_zero]; rfl)
        case hd159 => rfl
        case hw159 => rfl
        case hy159 => ((intro w hSw; (try dsimp only at hSw); go_simp) <;> (with_reducible rfl))
        case hq159 => exact fun _ _ _ h => h
        simp only [List.set_cons_succ, List.set_cons_zero]
        refine take_at (i := 29) (d := 201) (oi := ?o160) (v := ?v160) ?hi160 ?hd160 (by kernel_rfl) (by kernel_rfl) (by kernel_rfl) ?hw160 ?hy160 ?hq160 (by assumption) ?r160
        case hi160 => (simp only [List.getElem?_toArray, List.getElem?_cons_succ, List.getElem?_cons_zero]; rfl)
        case hd160 => rfl
        case hw160 => rfl
        case hy160 => ((intro w hSw; (try dsimp only at hSw); obtain ⟨k0, k1, k2⟩ := (X0.out _ hSw).cells; go_simp) <;> (with_reducible rfl))
        case hq160 => exact fun _ _ _ h => h
        simp only [List.set_cons_succ, List.set_cons_zero]
        refine take_at (i := 30) (d := 202) (oi := ?o161) (v := ?v161) ?hi161 ?hd161 (by kernel_rfl) (by kernel_rfl) (by kernel_rfl) ?hw161 ?hy161 ?hq161 (by assumption) ?r161
        case hi161 => (simp only [List.getElem?_toArray, List.getElem?_cons_succ, List.getElem?_cons_zero]; rfl)
        case hd161 => rfl
        case hw161 => rfl
        case hy161 => ((intro w hSw; (try dsimp only at hSw); go_simp) <;> (with_reducible rfl))
        case hq161 => exact fun _ _ _ h => h
        simp only [List.set_cons_succ, List.set_cons_zero]
        refine take_at (i := 31) (d := 203) (oi := ?o162) (v := ?v162) ?hi162 ?hd162 (by kernel_rfl) (by kernel_rfl) (by kernel_rfl) ?hw162 ?hy162 ?hq162 (by assumption) ?r162
        case hi162 => (simp only [List.getElem?_toArray, List.getElem?_cons_succ, List.getElem?_cons_zero]; rfl)
        case hd162 => rfl
        case hw162 => rfl
        case hy162 => ((intro w hSw; (try dsimp only at hSw); go_simp) <;> (with_reducible rfl))
        case hq162 => exact fun _ _ _ h => h
        simp only [List.set_cons_succ, List.set_cons_zero]
        refine call_at (i := 32) (d := 204) (oi := ?o163) (f := ?f163) (args := ?a163) ?hi163 ?hd163 (by kernel_rfl) ?hw163 ?he163 ?hc163
        case hi163 => (simp only [List.getElem?_toArray, List.getElem?_cons_succ, List.getElem?_cons_zero]; rfl)
        case hd163 => rfl
        case hw163 => rfl
        case he163 => (go_simp; constructor <;> with_reducible rfl)
        have em := alike_self t A1 u c1 (B.take u) _ HS.out.2.1 ((HT.out.on HX.out.2.2.2).on hHeld) ((HX.out.2.2.1.first hu4).on hHeld hHeld.size) hu3 hu2 HL.out.2
        refine em.mono ?_
        rintro r wv ⟨rfl, hb1⟩
        have kb : Below w6.heap.size w6 wv := hHeld.trans (hb1.mono hHeld.size)
        clear em
        refine ⟨_, rfl, kb, fun hHeld => ?_⟩
        simp only [List.set_cons_succ, List.set_cons_zero]
        refine take_at (i := 33) (d := 205) (oi := ?o164) (v := ?v164) ?hi164 ?hd164 (by kernel_rfl) (by kernel_rfl) (by kernel_rfl) ?hw164 ?hy164 ?hq164 (by assumption) ?r164
        case hi164 => (simp only [List.getElem?_toArray, List.getElem?_cons_succ, List.getElem?_cons_zero]; rfl)
        case hd164 => rfl
        case hw164 => rfl
        case hy164 => ((intro w hSw; (try dsimp only at hSw); go_simp) <;> (with_reducible rfl))
        case hq164 => exact fun _ _ _ h => h
        simp only [List.set_cons_succ, List.set_cons_zero]
        refine take_at (i := 34) (d := 206) (oi := ?o165) (v := ?v165) ?hi165 ?hd165 (by kernel_rfl) (by kernel_rfl) (by kernel_rfl) ?hw165 ?hy165 ?hq165 (by assumption) ?r165
        case hi165 => (simp only [List.getElem?_toArray, List.getElem?_cons_succ, List.getElem?_cons_zero]; rfl)
        case hd165 => rfl
        case hw165 => rfl
        case hy165 => ((intro w hSw; (try dsimp only at hSw); go_simp) <;> (with_reducible rfl))
        case hq165 => exact fun _ _ _ h => h
        simp only [List.set_cons_succ, List.set_cons_zero]
        refine call_at (i := 35) (d := 207) (oi := ?o166) (f := ?f166) (args := ?a166) ?hi166 ?hd166 (by kernel_rfl) ?hw166 ?he166 ?hc166
        case hi166 => (simp only [List.getElem?_toArray, List.getElem?_cons_succ, List.getElem?_cons_zero]; rfl)
        case hd166 => rfl
        case hw166 => rfl
        case he166 => (go_simp; constructor <;> with_reducible rfl)
        have em := wakes_true _ ((HT.out.on HX.out.2.2.2).on hHeld)
        refine em.mono ?_
        rintro r wv ⟨rfl, hb1⟩
        have kb : Below w6.heap.size w6 wv := hHeld.trans (hb1.mono hHeld.size)
        clear em
        refine ⟨_, rfl, kb, fun hHeld => ?_⟩
        simp only [List.set_cons_succ, List.set_cons_zero]
        refine take_at (i := 36) (d := 208) (oi := ?o167) (v := ?v167) ?hi167 ?hd167 (by kernel_rfl) (by kernel_rfl) (by kernel_rfl) ?hw167 ?hy167 ?hq167 (by assumption) ?r167
        case hi167 => (simp only [List.getElem?_toArray, List.getElem?_cons_succ, List.getElem?_cons_zero]; rfl)
        case hd167 => rfl
        case hw167 => rfl
        case hy167 => ((intro w hSw; (try dsimp only at hSw); go_simp) <;> (with_reducible rfl))
        case hq167 => exact fun _ _ _ h => h
        simp only [List.set_cons_succ, List.set_cons_zero]
        refine take_at (i := 37) (d := 8) (oi := ?o168) (v := ?v168) ?hi168 ?hd168 (by kernel_rfl) (by kernel_rfl) (by kernel_rfl) ?hw168 ?hy168 ?hq168 (by assumption) ?r168
        case hi168 => (simp only [List.getElem?_toArray, List.getElem?_cons_succ, List.getElem?_cons_zero]; rfl)
        case hd168 => rfl
        case hw168 => rfl
        case hy168 => ((intro w hSw; (try dsimp only at hSw); go_simp) <;> (with_reducible rfl))
        case hq168 => exact fun _ _ _ h => h
        simp only [List.set_cons_succ, List.set_cons_zero]
        refine wpAnyH_done (by kernel_rfl) ?_ _
        go_wp2_with fail
        go_ret
        exact ⟨rfl, HX.out.2.2.2.trans (hHeld.mono HX.out.2.2.2.size)⟩
    · have hns : NoSeg t (B.take p) := HS.out.1.noSeg (by rw [List.length_take, HP.out.2.2.1]; omega)
      have q19 : ((u : Int) == (p : Int)) = false := by simp; omega
      have Hw := Lib.hid (⟨hw, hns⟩ : _ ∧ _)
      clear hw hns
      refine Calls.mono (EMore_any t A1 p c1 (B.take p) none 0 0 [] w4 (HT.out.on B4) (r1.first (m := p) (by omega)) (HP.out.2.1.byt.take p) (by omega) (by omega) Row.nil (by omega) (by omega) HL.out.2) ?_
      intro e w5 hh
      obtain ⟨⟨L, er⟩, hM, ⟨A9, c9, n9, he, -, -⟩, bb⟩ := hh
      rw [show er = 11 from (congrArg Prod.snd (hM.same (.inr (.inl ⟨Hf.out.2.1, Hw.out.2, rfl⟩))) : er = 11)] at he
      subst he
      clear hM
      replace Hes := Hes.on bb bb.size
      replace r1 := r1.on bb bb.size
      replace s8 := s8.on bb bb.size
      replace zb := zb.below bb
      have B5 := B4.trans (bb.mono B4.size)
      clear bb B4
      go_wp2_with fail
      refine Calls.mono (ETurn_any t (3 - t) A1 p c1 (B.take p) w5 (HT.out.on B5) (r1.first (m := p) (by omega)) (HP.out.2.1.byt.take p) (by omega) (by omega) HL.out.2 h3t) ?_
      intro e w6 hh
      obtain ⟨⟨L, er⟩, hR, ⟨A10, n10, c10, he, -, -, -⟩, bb⟩ := hh
      rw [show er = 11 from (congrArg Prod.snd (hR.same (.inr (.inl ⟨⟨Hf.out.2.1, Hf.out.2.2⟩, Hw.out.2, rfl⟩))) : er = 11)] at he
      subst he
      clear hR
      replace Hes := Hes.on bb bb.size
      replace r1 := r1.on bb bb.size
      replace s8 := s8.on bb bb.size
      replace zb := zb.below bb
      have B6 := B5.trans (bb.mono B5.size)
      clear bb B5
      obtain ⟨d0, d1, d2⟩ := zb.cells
      go_wp2_with fail
      have X0 := Lib.hid (show ∀ W, Below w6.heap.size w6 W → BoxC W zz first (.slice A8 j c8) (u : Int) from fun W hW => zb.below hW)
      have hcutE := cut_firstE Tryz.underlying22 hje A n c j (by omega)
      have hcutB := cut_firstE Tryz.underlying23 hi A1 q c1 u (by omega)
      have HX := Lib.hid (⟨s8, Row.first Hes hj, r1, B6⟩ : _ ∧ _ ∧ _ ∧ _)
      have v1 : decide ((p : Int) < (u : Int)) = false := by simp; omega
      have v1' : ¬ ((p : Int) < (u : Int)) := by omega
      have v2 : decide ((u : Int) < 1) = false := by simp; omega
      have v2' : ¬ ((u : Int) < 1) := by omega
      have v3 : decide ((n : Int) < (j : Int)) = false := by simp; omega
      have v3' : ¬ ((n : Int) < (j : Int)) := by omega
      have hk9 : j ≤ 1000000000 := by omega
      have hu2 : u ≤ 200000 := by omega
      have hu3 : u ≤ c1 := by omega
      have hu4 : u ≤ q := by omega
      clear s8 Hes r1 B6 zb d0 d1 d2
      have q38 : ((p : Int) == (q : Int)) = false := by simp; intro e; exact Hw.out.1 (hpe (by omega))
      refine wp_region_held_drew (S := (fun W => Below w6.heap.size w6 W)) (by kernel_rfl) (below_dr (below_d0 _)) (fun hHeld => ?_)
      refine take_at (i := 0) (d := 122) (oi := ?o169) (v := ?v169) ?hi169 ?hd169 (by kernel_rfl) (by kernel_rfl) (by kernel_rfl) ?hw169 ?hy169 ?hq169 (by assumption) ?r169
      case hi169 => (simp only [List.getElem?_toArray, List.getElem?_cons_zero]; rfl)
      case hd169 => rfl
      case hw169 => rfl
      case hy169 => ((intro w hSw; (try dsimp only at hSw); go_simp) <;> (with_reducible rfl))
      case hq169 => exact fun _ _ _ h => h
      simp only [List.set_cons_succ, List.set_cons_zero]
      refine take_at (i := 1) (d := 123) (oi := ?o170) (v := ?v170) ?hi170 ?hd170 (by kernel_rfl) (by kernel_rfl) (by kernel_rfl) ?hw170 ?hy170 ?hq170 (by assumption) ?r170
      case hi170 => (simp only [List.getElem?_toArray, List.getElem?_cons_succ, List.getElem?_cons_zero]; rfl)
      case hd170 => rfl
      case hw170 => rfl
      case hy170 => ((intro w hSw; (try dsimp only at hSw); obtain ⟨k0, k1, k2⟩ := (X0.out _ hSw).cells; go_simp) <;> (with_reducible rfl))
      case hq170 => exact fun _ _ _ h => h
      simp only [List.set_cons_succ, List.set_cons_zero]
      refine take_at (i := 2) (d := 124) (oi := ?o171) (v := ?v171) ?hi171 ?hd171 (by kernel_rfl) (by kernel_rfl) (by kernel_rfl) ?hw171 ?hy171 ?hq171 (by assumption) ?r171
      case hi171 => (simp only [List.getElem?_toArray, List.getElem?_cons_succ, List.getElem?_cons_zero]; rfl)
      case hd171 => rfl
      case hw171 => rfl
      case hy171 => ((intro w hSw; (try dsimp only at hSw); go_simp) <;> (with_reducible rfl))
      case hq171 => exact fun _ _ _ h => h
      simp only [List.set_cons_succ, List.set_cons_zero]
      refine take_at (i := 3) (d := 125) (oi := ?o172) (v := ?v172) ?hi172 ?hd172 (by kernel_rfl) (by kernel_rfl) (by kernel_rfl) ?hw172 ?hy172 ?hq172 (by assumption) ?r172
      case hi172 => (simp only [List.getElem?_toArray, List.getElem?_cons_succ, List.getElem?_cons_zero]; rfl)
      case hd172 => rfl
      case hw172 => rfl
      case hy172 => ((intro w hSw; (try dsimp only at hSw); go_simp) <;> (with_reducible rfl))
      case hq172 => exact fun _ _ _ h => h
      simp only [List.set_cons_succ, List.set_cons_zero]
      refine take_at (i := 4) (d := 126) (oi := ?o173) (v := ?v173) ?hi173 ?hd173 (by kernel_rfl) (by kernel_rfl) (by kernel_rfl) ?hw173 ?hy173 ?hq173 (by assumption) ?r173
      case hi173 => (simp only [List.getElem?_toArray, List.getElem?_cons_succ, List.getElem?_cons_zero]; rfl)
      case hd173 => rfl
      case hw173 => rfl
      case hy173 => ((intro w hSw; (try dsimp only at hSw); go_simp) <;> (with_reducible rfl))
      case hq173 => exact fun _ _ _ h => h
      simp only [List.set_cons_succ, List.set_cons_zero]
      refine take_at (i := 5) (d := 127) (oi := ?o174) (v := ?v174) ?hi174 ?hd174 (by kernel_rfl) (by kernel_rfl) (by kernel_rfl) ?hw174 ?hy174 ?hq174 (by assumption) ?r174
      case hi174 => (simp only [List.getElem?_toArray, List.getElem?_cons_succ, List.getElem?_cons_zero]; rfl)
      case hd174 => rfl
      case hw174 => rfl
      case hy174 => ((intro w hSw; (try dsimp only at hSw); go_simp) <;> (with_reducible rfl))
      case hq174 => exact fun _ _ _ h => h
      simp only [List.set_cons_succ, List.set_cons_zero]
      refine take_at (i := 6) (d := 128) (oi := ?o175) (v := ?v175) ?hi175 ?hd175 (by kernel_rfl) (by kernel_rfl) (by kernel_rfl) ?hw175 ?hy175 ?hq175 (by assumption) ?r175
      case hi175 => (simp only [List.getElem?_toArray, List.getElem?_cons_succ, List.getElem?_cons_zero]; rfl)
      case hd175 => rfl
      case hw175 => rfl
      case hy175 => ((intro w hSw; (try dsimp only at hSw); obtain ⟨k0, k1, k2⟩ := (X0.out _ hSw).cells; go_simp) <;> (with_reducible rfl))
      case hq175 => exact fun _ _ _ h => h
      simp only [List.set_cons_succ, List.set_cons_zero]
      refine take_at (i := 7) (d := 129) (oi := ?o176) (v := ?v176) ?hi176 ?hd176 (by kernel_rfl) (by kernel_rfl) (by kernel_rfl) ?hw176 ?hy176 ?hq176 (by assumption) ?r176
      case hi176 => (simp only [List.getElem?_toArray, List.getElem?_cons_succ, List.getElem?_cons_zero]; rfl)
      case hd176 => rfl
      case hw176 => rfl
      case hy176 => ((intro w hSw; (try dsimp only at hSw); go_simp) <;> (with_reducible rfl))
      case hq176 => exact fun _ _ _ h => h
      simp only [List.set_cons_succ, List.set_cons_zero]
      refine take_at (i := 8) (d := 130) (oi := ?o177) (v := ?v177) ?hi177 ?hd177 (by kernel_rfl) (by kernel_rfl) (by kernel_rfl) ?hw177 ?hy177 ?hq177 (by assumption) ?r177
      case hi177 => (simp only [List.getElem?_toArray, List.getElem?_cons_succ, List.getElem?_cons_zero]; rfl)
      case hd177 => rfl
      case hw177 => rfl
      case hy177 => ((intro w hSw; (try dsimp only at hSw); go_simp) <;> (with_reducible rfl))
      case hq177 => exact fun _ _ _ h => h
      simp only [List.set_cons_succ, List.set_cons_zero]
      refine take_at (i := 9) (d := 131) (oi := ?o178) (v := ?v178) ?hi178 ?hd178 (by kernel_rfl) (by kernel_rfl) (by kernel_rfl) ?hw178 ?hy178 ?hq178 (by assumption) ?r178
      case hi178 => (simp only [List.getElem?_toArray, List.getElem?_cons_succ, List.getElem?_cons_zero]; rfl)
      case hd178 => rfl
      case hw178 => rfl
      case hy178 => ((intro w hSw; (try dsimp only at hSw); go_simp) <;> (with_reducible rfl))
      case hq178 => exact fun _ _ _ h => h
      simp only [List.set_cons_succ, List.set_cons_zero]
      refine take_at (i := 10) (d := 132) (oi := ?o179) (v := ?v179) ?hi179 ?hd179 (by kernel_rfl) (by kernel_rfl) (by kernel_rfl) ?hw179 ?hy179 ?hq179 (by assumption) ?r179
      case hi179 => (simp only [List.getElem?_toArray, List.getElem?_cons_succ, List.getElem?_cons_zero]; rfl)
      case hd179 => rfl
      case hw179 => rfl
      case hy179 => ((intro w hSw; (try dsimp only at hSw); go_simp) <;> (with_reducible rfl))
      case hq179 => exact fun _ _ _ h => h
      simp only [List.set_cons_succ, List.set_cons_zero]
      refine take_at (i := 11) (d := 133) (oi := ?o180) (v := ?v180) ?hi180 ?hd180 (by kernel_rfl) (by kernel_rfl) (by kernel_rfl) ?hw180 ?hy180 ?hq180 (by assumption) ?r180
      case hi180 => (simp only [List.getElem?_toArray, List.getElem?_cons_succ, List.getElem?_cons_zero]; rfl)
      case hd180 => rfl
      case hw180 => rfl
      case hy180 => ((intro w hSw; (try dsimp only at hSw); go_simp) <;> (with_reducible rfl))
      case hq180 => exact fun _ _ _ h => h
      simp only [List.set_cons_succ, List.set_cons_zero]
      refine take_at (i := 12) (d := 134) (oi := ?o181) (v := ?v181) ?hi181 ?hd181 (by kernel_rfl) (by kernel_rfl) (by kernel_rfl) ?hw181 ?hy181 ?hq181 (by assumption) ?r181
      case hi181 => (simp only [List.getElem?_toArray, List.getElem?_cons_succ, List.getElem?_cons_zero]; rfl)
      case hd181 => rfl
      case hw181 => rfl
      case hy181 => ((intro w hSw; (try dsimp only at hSw); obtain ⟨k0, k1, k2⟩ := (X0.out _ hSw).cells; go_simp) <;> (with_reducible rfl))
      case hq181 => exact fun _ _ _ h => h
      simp only [List.set_cons_succ, List.set_cons_zero]
      refine take_at (i := 13) (d := 135) (oi := ?o182) (v := ?v182) ?hi182 ?hd182 (by kernel_rfl) (by kernel_rfl) (by kernel_rfl) ?hw182 ?hy182 ?hq182 (by assumption) ?r182
      case hi182 => (simp only [List.getElem?_toArray, List.getElem?_cons_succ, List.getElem?_cons_zero]; rfl)
      case hd182 => rfl
      case hw182 => rfl
      case hy182 => ((intro w hSw; (try dsimp only at hSw); go_simp) <;> (with_reducible rfl))
      case hq182 => exact fun _ _ _ h => h
      simp only [List.set_cons_succ, List.set_cons_zero]
      refine take_at (i := 14) (d := 136) (oi := ?o183) (v := ?v183) ?hi183 ?hd183 (by kernel_rfl) (by kernel_rfl) (by kernel_rfl) ?hw183 ?hy183 ?hq183 (by assumption) ?r183
      case hi183 => (simp only [List.getElem?_toArray, List.getElem?_cons_succ, List.getElem?_cons_zero]; rfl)
      case hd183 => rfl
      case hw183 => rfl
      case hy183 => ((intro w hSw; (try dsimp only at hSw); go_simp) <;> (with_reducible rfl))
      case hq183 => exact fun _ _ _ h => h
      simp only [List.set_cons_succ, List.set_cons_zero]
      refine take_at (i := 15) (d := 137) (oi := ?o184) (v := ?v184) ?hi184 ?hd184 (by kernel_rfl) (by kernel_rfl) (by kernel_rfl) ?hw184 ?hy184 ?hq184 (by assumption) ?r184
      case hi184 => (simp only [List.getElem?_toArray, List.getElem?_cons_succ, List.getElem?_cons_zero]; rfl)
      case hd184 => rfl
      case hw184 => rfl
      case hy184 => ((intro w hSw; (try dsimp only at hSw); go_simp) <;> (with_reducible rfl))
      case hq184 => exact fun _ _ _ h => h
      simp only [List.set_cons_succ, List.set_cons_zero]
      refine take_at (i := 16) (d := 138) (oi := ?o185) (v := ?v185) ?hi185 ?hd185 (by kernel_rfl) (by kernel_rfl) (by kernel_rfl) ?hw185 ?hy185 ?hq185 (by assumption) ?r185
      case hi185 => (simp only [List.getElem?_toArray, List.getElem?_cons_succ, List.getElem?_cons_zero]; rfl)
      case hd185 => rfl
      case hw185 => rfl
      case hy185 => ((intro w hSw; (try dsimp only at hSw); go_simp) <;> (with_reducible rfl))
      case hq185 => exact fun _ _ _ h => h
      simp only [List.set_cons_succ, List.set_cons_zero]
      refine take_at (i := 17) (d := 139) (oi := ?o186) (v := ?v186) ?hi186 ?hd186 (by kernel_rfl) (by kernel_rfl) (by kernel_rfl) ?hw186 ?hy186 ?hq186 (by assumption) ?r186
      case hi186 => (simp only [List.getElem?_toArray, List.getElem?_cons_succ, List.getElem?_cons_zero]; rfl)
      case hd186 => rfl
      case hw186 => rfl
      case hy186 => ((intro w hSw; (try dsimp only at hSw); obtain ⟨k0, k1, k2⟩ := (X0.out _ hSw).cells; go_simp) <;> (with_reducible rfl))
      case hq186 => exact fun _ _ _ h => h
      simp only [List.set_cons_succ, List.set_cons_zero]
      refine take_at (i := 18) (d := 140) (oi := ?o187) (v := ?v187) ?hi187 ?hd187 (by kernel_rfl) (by kernel_rfl) (by kernel_rfl) ?hw187 ?hy187 ?hq187 (by assumption) ?r187
      case hi187 => (simp only [List.getElem?_toArray, List.getElem?_cons_succ, List.getElem?_cons_zero]; rfl)
      case hd187 => rfl
      case hw187 => rfl
      case hy187 => ((intro w hSw; (try dsimp only at hSw); go_simp) <;> (with_reducible rfl))
      case hq187 => exact fun _ _ _ h => h
      simp only [List.set_cons_succ, List.set_cons_zero]
      refine take_at (i := 19) (d := 141) (oi := ?o188) (v := ?v188) ?hi188 ?hd188 (by kernel_rfl) (by kernel_rfl) (by kernel_rfl) ?hw188 ?hy188 ?hq188 (by assumption) ?r188
      case hi188 => (simp only [List.getElem?_toArray, List.getElem?_cons_succ, List.getElem?_cons_zero]; rfl)
      case hd188 => rfl
      case hw188 => rfl
      case hy188 => ((intro w hSw; (try dsimp only at hSw); go_simp) <;> (with_reducible rfl))
      case hq188 => exact fun _ _ _ h => h
      simp only [List.set_cons_succ, List.set_cons_zero]
      refine take_at (i := 20) (d := 142) (oi := ?o189) (v := ?v189) ?hi189 ?hd189 (by kernel_rfl) (by kernel_rfl) (by kernel_rfl) ?hw189 ?hy189 ?hq189 (by assumption) ?r189
      case hi189 => (simp only [List.getElem?_toArray, List.getElem?_cons_succ, List.getElem?_cons_zero]; rfl)
      case hd189 => rfl
      case hw189 => rfl
      case hy189 => ((intro w hSw; (try dsimp only at hSw); go_simp) <;> (with_reducible rfl))
      case hq189 => exact fun _ _ _ h => h
      simp only [List.set_cons_succ, List.set_cons_zero]
      refine take_at (i := 21) (d := 143) (oi := ?o190) (v := ?v190) ?hi190 ?hd190 (by kernel_rfl) (by kernel_rfl) (by kernel_rfl) ?hw190 ?hy190 ?hq190 (by assumption) ?r190
      case hi190 => (simp only [List.getElem?_toArray, List.getElem?_cons_succ, List.getElem?_cons_zero]; rfl)
      case hd190 => rfl
      case hw190 => rfl
      case hy190 => ((intro w hSw; (try dsimp only at hSw); go_simp) <;> (with_reducible rfl))
      case hq190 => exact fun _ _ _ h => h
      simp only [List.set_cons_succ, List.set_cons_zero]
      refine take_at (i := 22) (d := 144) (oi := ?o191) (v := ?v191) ?hi191 ?hd191 (by kernel_rfl) (by kernel_rfl) (by kernel_rfl) ?hw191 ?hy191 ?hq191 (by assumption) ?r191
      case hi191 => (simp only [List.getElem?_toArray, List.getElem?_cons_succ, List.getElem?_cons_zero]; rfl)
      case hd191 => rfl
      case hw191 => rfl
      case hy191 => ((intro w hSw; (try dsimp only at hSw); go_simp) <;> (with_reducible rfl))
      case hq191 => exact fun _ _ _ h => h
      simp only [List.set_cons_succ, List.set_cons_zero]
      refine take_at (i := 23) (d := 145) (oi := ?o192) (v := ?v192) ?hi192 ?hd192 (by kernel_rfl) (by kernel_rfl) (by kernel_rfl) ?hw192 ?hy192 ?hq192 (by assumption) ?r192
      case hi192 => (simp only [List.getElem?_toArray, List.getElem?_cons_succ, List.getElem?_cons_zero]; rfl)
      case hd192 => rfl
      case hw192 => rfl
      case hy192 => ((intro w hSw; (try dsimp only at hSw); go_simp) <;> (with_reducible rfl))
      case hq192 => exact fun _ _ _ h => h
      simp only [List.set_cons_succ, List.set_cons_zero]
      refine take_at (i := 24) (d := 146) (oi := ?o193) (v := ?v193) ?hi193 ?hd193 (by kernel_rfl) (by kernel_rfl) (by kernel_rfl) ?hw193 ?hy193 ?hq193 (by assumption) ?r193
      case hi193 => (simp only [List.getElem?_toArray, List.getElem?_cons_succ, List.getElem?_cons_zero]; rfl)
      case hd193 => rfl
      case hw193 => rfl
      case hy193 => ((intro w hSw; (try dsimp only at hSw); go_simp) <;> (with_reducible rfl))
      case hq193 => exact fun _ _ _ h => h
      simp only [List.set_cons_succ, List.set_cons_zero]
      refine take_at (i := 25) (d := 147) (oi := ?o194) (v := ?v194) ?hi194 ?hd194 (by kernel_rfl) (by kernel_rfl) (by kernel_rfl) ?hw194 ?hy194 ?hq194 (by assumption) ?r194
      case hi194 => (simp only [List.getElem?_toArray, List.getElem?_cons_succ, List.getElem?_cons_zero]; rfl)
      case hd194 => rfl
      case hw194 => rfl
      case hy194 => ((intro w hSw; (try dsimp only at hSw); obtain ⟨k0, k1, k2⟩ := (X0.out _ hSw).cells; go_simp) <;> (with_reducible rfl))
      case hq194 => exact fun _ _ _ h => h
      simp only [List.set_cons_succ, List.set_cons_zero]
      refine take_at (i := 26) (d := 148) (oi := ?o195) (v := ?v195) ?hi195 ?hd195 (by kernel_rfl) (by kernel_rfl) (by kernel_rfl) ?hw195 ?hy195 ?hq195 (by assumption) ?r195
      case hi195 => (simp only [List.getElem?_toArray, List.getElem?_cons_succ, List.getElem?_cons_zero]; rfl)
      case hd195 => rfl
      case hw195 => rfl
      case hy195 => ((intro w hSw; (try dsimp only at hSw); go_simp) <;> (with_reducible rfl))
      case hq195 => exact fun _ _ _ h => h
      simp only [List.set_cons_succ, List.set_cons_zero]
      refine take_at (i := 27) (d := 149) (oi := ?o196) (v := ?v196) ?hi196 ?hd196 (by kernel_rfl) (by kernel_rfl) (by kernel_rfl) ?hw196 ?hy196 ?hq196 (by assumption) ?r196
      case hi196 => (simp only [List.getElem?_toArray, List.getElem?_cons_succ, List.getElem?_cons_zero]; rfl)
      case hd196 => rfl
      case hw196 => rfl
      case hy196 => ((intro w hSw; (try dsimp only at hSw); go_simp) <;> (with_reducible rfl))
      case hq196 => exact fun _ _ _ h => h
      simp only [List.set_cons_succ, List.set_cons_zero]
      refine take_at (i := 28) (d := 150) (oi := ?o197) (v := ?v197) ?hi197 ?hd197 (by kernel_rfl) (by kernel_rfl) (by kernel_rfl) ?hw197 ?hy197 ?hq197 (by assumption) ?r197
      case hi197 => (simp only [List.getElem?_toArray, List.getElem?_cons_succ, List.getElem?_cons_zero]; rfl)
      case hd197 => rfl
      case hw197 => rfl
      case hy197 => ((intro w hSw; (try dsimp only at hSw); obtain ⟨k0, k1, k2⟩ := (X0.out _ hSw).cells; go_simp) <;> (with_reducible rfl))
      case hq197 => exact fun _ _ _ h => h
      simp only [List.set_cons_succ, List.set_cons_zero]
      refine take_at (i := 29) (d := 151) (oi := ?o198) (v := ?v198) ?hi198 ?hd198 (by kernel_rfl) (by kernel_rfl) (by kernel_rfl) ?hw198 ?hy198 ?hq198 (by assumption) ?r198
      case hi198 => (simp only [List.getElem?_toArray, List.getElem?_cons_succ, List.getElem?_cons_zero]; rfl)
      case hd198 => rfl
      case hw198 => rfl
      case hy198 => ((intro w hSw; (try dsimp only at hSw); go_simp) <;> (with_reducible rfl))
      case hq198 => exact fun _ _ _ h => h
      simp only [List.set_cons_succ, List.set_cons_zero]
      refine take_at (i := 30) (d := 152) (oi := ?o199) (v := ?v199) ?hi199 ?hd199 (by kernel_rfl) (by kernel_rfl) (by kernel_rfl) ?hw199 ?hy199 ?hq199 (by assumption) ?r199
      case hi199 => (simp only [List.getElem?_toArray, List.getElem?_cons_succ, List.getElem?_cons_zero]; rfl)
      case hd199 => rfl
      case hw199 => rfl
      case hy199 => ((intro w hSw; (try dsimp only at hSw); go_simp) <;> (with_reducible rfl))
      case hq199 => exact fun _ _ _ h => h
      simp only [List.set_cons_succ, List.set_cons_zero]
      refine call_at (i := 31) (d := 153) (oi := ?o200) (f := ?f200) (args := ?a200) ?hi200 ?hd200 (by kernel_rfl) ?hw200 ?he200 ?hc200
      case hi200 => (simp only [List.getElem?_toArray, List.getElem?_cons_succ, List.getElem?_cons_zero]; rfl)
      case hd200 => rfl
      case hw200 => rfl
      case he200 => (go_simp; constructor <;> with_reducible rfl)
      have em := ents_self A8 A j c8 c (l.take j) _ (HX.out.1.on hHeld hHeld.size) (Row.on HX.out.2.1 hHeld hHeld.size) hk9
      refine em.mono ?_
      rintro r wv ⟨rfl, hb1⟩
      have kb : Below w6.heap.size w6 wv := hHeld.trans (hb1.mono hHeld.size)
      clear em
      refine ⟨_, rfl, kb, fun hHeld => ?_⟩
      simp only [List.set_cons_succ, List.set_cons_zero]
      refine take_at (i := 32) (d := 154) (oi := ?o201) (v := ?v201) ?hi201 ?hd201 (by kernel_rfl) (by kernel_rfl) (by kernel_rfl) ?hw201 ?hy201 ?hq201 (by assumption) ?r201
      case hi201 => (simp only [List.getElem?_toArray, List.getElem?_cons_succ, List.getElem?_cons_zero]; rfl)
      case hd201 => rfl
      case hw201 => rfl
      case hy201 => ((intro w hSw; (try dsimp only at hSw); go_simp) <;> (with_reducible rfl))
      case hq201 => exact fun _ _ _ h => h
      simp only [List.set_cons_succ, List.set_cons_zero]
      refine take_at (i := 33) (d := 155) (oi := ?o202) (v := ?v202) ?hi202 ?hd202 (by kernel_rfl) (by kernel_rfl) (by kernel_rfl) ?hw202 ?hy202 ?hq202 (by assumption) ?r202
      case hi202 => (simp only [List.getElem?_toArray, List.getElem?_cons_succ, List.getElem?_cons_zero]; rfl)
      case hd202 => rfl
      case hw202 => rfl
      case hy202 => ((intro w hSw; (try dsimp only at hSw); go_simp) <;> (with_reducible rfl))
      case hq202 => exact fun _ _ _ h => h
      simp only [List.set_cons_succ, List.set_cons_zero]
      refine take_at (i := 34) (d := 156) (oi := ?o203) (v := ?v203) ?hi203 ?hd203 (by kernel_rfl) (by kernel_rfl) (by kernel_rfl) ?hw203 ?hy203 ?hq203 (by assumption) ?r203
      case hi203 => (simp only [List.getElem?_toArray, List.getElem?_cons_succ, List.getElem?_cons_zero]; rfl)
      case hd203 => rfl
      case hw203 => rfl
      case hy203 => ((intro w hSw; (try dsimp only at hSw); go_simp) <;> (with_reducible rfl))
      case hq203 => exact fun _ _ _ h => h
      simp only [List.set_cons_succ, List.set_cons_zero]
      refine take_at (i := 35) (d := 157) (oi := ?o204) (v := ?v204) ?hi204 ?hd204 (by kernel_rfl) (by kernel_rfl) (by kernel_rfl) ?hw204 ?hy204 ?hq204 (by assumption) ?r204
      case hi204 => (simp only [List.getElem?_toArray, List.getElem?_cons_succ, List.getElem?_cons_zero]; rfl)
      case hd204 => rfl
      case hw204 => rfl
      case hy204 => ((intro w hSw; (try dsimp only at hSw); go_simp) <;> (with_reducible rfl))
      case hq204 => exact fun _ _ _ h => h
      simp only [List.set_cons_succ, List.set_cons_zero]
      refine take_at (i := 36) (d := 158) (oi := ?o205) (v := ?v205) ?hi205 ?hd205 (by kernel_rfl) (by kernel_rfl) (by kernel_rfl) ?hw205 ?hy205 ?hq205 (by assumption) ?r205
      case hi205 => (simp only [List.getElem?_toArray, List.getElem?_cons_succ, List.getElem?_cons_zero]; rfl)
      case hd205 => rfl
      case hw205 => rfl
      case hy205 => ((intro w hSw; (try dsimp only at hSw); go_simp) <;> (with_reducible rfl))
      case hq205 => exact fun _ _ _ h => h
      simp only [List.set_cons_succ, List.set_cons_zero]
      refine take_at (i := 37) (d := 159) (oi := ?o206) (v := ?v206) ?hi206 ?hd206 (by kernel_rfl) (by kernel_rfl) (by kernel_rfl) ?hw206 ?hy206 ?hq206 (by assumption) ?r206
      case hi206 => (simp only [List.getElem?_toArray, List.getElem?_cons_succ, List.getElem?_cons_zero]; rfl)
      case hd206 => rfl
      case hw206 => rfl
      case hy206 => ((intro w hSw; (try dsimp only at hSw); go_simp) <;> (with_reducible rfl))
      case hq206 => exact fun _ _ _ h => h
      simp only [List.set_cons_succ, List.set_cons_zero]
      refine take_at (i := 38) (d := 160) (oi := ?o207) (v := ?v207) ?hi207 ?hd207 (by kernel_rfl) (by kernel_rfl) (by kernel_rfl) ?hw207 ?hy207 ?hq207 (by assumption) ?r207
      case hi207 => (simp only [List.getElem?_toArray, List.getElem?_cons_succ, List.getElem?_cons_zero]; rfl)
      case hd207 => rfl
      case hw207 => rfl
      case hy207 => ((intro w hSw; (try dsimp only at hSw); go_simp) <;> (with_reducible rfl))
      case hq207 => exact fun _ _ _ h => h
      simp only [List.set_cons_succ, List.set_cons_zero]
      refine take_at (i := 39) (d := 161) (oi := ?o208) (v := ?v208) ?hi208 ?hd208 (by kernel_rfl) (by kernel_rfl) (by kernel_rfl) ?hw208 ?hy208 ?hq208 (by assumption) ?r208
      case hi208 => (simp only [List.getElem?_toArray, List.getElem?_cons_succ, List.getElem?_cons_zero]; rfl)
      case hd208 => rfl
      case hw208 => rfl
      case hy208 => ((intro w hSw; (try dsimp only at hSw); go_simp) <;> (with_reducible rfl))
      case hq208 => exact fun _ _ _ h => h
      simp only [List.set_cons_succ, List.set_cons_zero]
      refine skip_at (i := 40) (d := 162) (oi := ?o209) ?hi209 ?hd209 (by kernel_rfl) (by kernel_rfl) (by kernel_rfl) ?hw209 ?hq209 (by assumption) ?r209
      case hi209 => (simp only [List.getElem?_toArray, List.getElem?_cons_succ, List.getElem?_cons_zero]; rfl)
      case hd209 => rfl
      case hw209 => rfl
      case hq209 => exact fun _ _ _ h => h
      simp only [List.set_cons_succ, List.set_cons_zero]
      refine skip_at (i := 41) (d := 163) (oi := ?o210) ?hi210 ?hd210 (by kernel_rfl) (by kernel_rfl) (by kernel_rfl) ?hw210 ?hq210 (by assumption) ?r210
      case hi210 => (simp only [List.getElem?_toArray, List.getElem?_cons_succ, List.getElem?_cons_zero]; rfl)
      case hd210 => rfl
      case hw210 => rfl
      case hq210 => exact fun _ _ _ h => h
      simp only [List.set_cons_succ, List.set_cons_zero]
      refine skip_at (i := 42) (d := 164) (oi := ?o211) ?hi211 ?hd211 (by kernel_rfl) (by kernel_rfl) (by kernel_rfl) ?hw211 ?hq211 (by assumption) ?r211
      case hi211 => (simp only [List.getElem?_toArray, List.getElem?_cons_succ, List.getElem?_cons_zero]; rfl)
      case hd211 => rfl
      case hw211 => rfl
      case hq211 => exact fun _ _ _ h => h
      simp only [List.set_cons_succ, List.set_cons_zero]
      refine skip_at (i := 43) (d := 165) (oi := ?o212) ?hi212 ?hd212 (by kernel_rfl) (by kernel_rfl) (by kernel_rfl) ?hw212 ?hq212 (by assumption) ?r212
      case hi212 => (simp only [List.getElem?_toArray, List.getElem?_cons_succ, List.getElem?_cons_zero]; rfl)
      case hd212 => rfl
      case hw212 => rfl
      case hq212 => exact fun _ _ _ h => h
      simp only [List.set_cons_succ, List.set_cons_zero]
      refine take_at (i := 44) (d := 166) (oi := ?o213) (v := ?v213) ?hi213 ?hd213 (by kernel_rfl) (by kernel_rfl) (by kernel_rfl) ?hw213 ?hy213 ?hq213 (by assumption) ?r213
      case hi213 => (simp only [List.getElem?_toArray, List.getElem?_cons_succ, List.getElem?_cons_zero]; rfl)
      case hd213 => rfl
      case hw213 => rfl
      case hy213 => ((intro w hSw; (try dsimp only at hSw); go_simp) <;> (with_reducible rfl))
      case hq213 => exact fun _ _ _ h => h
      simp only [List.set_cons_succ, List.set_cons_zero]
      refine take_at (i := 45) (d := 167) (oi := ?o214) (v := ?v214) ?hi214 ?hd214 (by kernel_rfl) (by kernel_rfl) (by kernel_rfl) ?hw214 ?hy214 ?hq214 (by assumption) ?r214
      case hi214 => (simp only [List.getElem?_toArray, List.getElem?_cons_succ, List.getElem?_cons_zero]; rfl)
      case hd214 => rfl
      case hw214 => rfl
      case hy214 => ((intro w hSw; (try dsimp only at hSw); go_simp) <;> (with_reducible rfl))
      case hq214 => exact fun _ _ _ h => h
      simp only [List.set_cons_succ, List.set_cons_zero]
      refine wpAnyH_done (by kernel_rfl) ?_ _
      have hc9 := hHeld
      obtain ⟨d0, d1, d2⟩ := (X0.out _ hc9).cells
      clear hHeld
      go_wp2_with fail
      clear d0 d1 d2
      refine wp_region_held_drew (S := (fun W => Below w6.heap.size w6 W)) (by kernel_rfl) (below_dr hc9) (fun hHeld => ?_)
      refine take_at (i := 0) (d := 172) (oi := ?o215) (v := ?v215) ?hi215 ?hd215 (by kernel_rfl) (by kernel_rfl) (by kernel_rfl) ?hw215 ?hy215 ?hq215 (by assumption) ?r215
      case hi215 => (simp only [List.getElem?_toArray, List.getElem?_cons_zero]; rfl)
      case hd215 => rfl
      case hw215 => rfl
      case hy215 => ((intro w hSw; (try dsimp only at hSw); go_simp) <;> (with_reducible rfl))
      case hq215 => exact fun _ _ _ h => h
      simp only [List.set_cons_succ, List.set_cons_zero]
      refine take_at (i := 1) (d := 173) (oi := ?o216) (v := ?v216) ?hi216 ?hd216 (by kernel_rfl) (by kernel_rfl) (by kernel_rfl) ?hw216 ?hy216 ?hq216 (by assumption) ?r216
      case hi216 => (simp only [List.getElem?_toArray, List.getElem?_cons_succ, List.getElem?_cons_zero]; rfl)
      case hd216 => rfl
      case hw216 => rfl
      case hy216 => ((intro w hSw; (try dsimp only at hSw); go_simp) <;> (with_reducible rfl))
      case hq216 => exact fun _ _ _ h => h
      simp only [List.set_cons_succ, List.set_cons_zero]
      refine take_at (i := 2) (d := 174) (oi := ?o217) (v := ?v217) ?hi217 ?hd217 (by kernel_rfl) (by kernel_rfl) (by kernel_rfl) ?hw217 ?hy217 ?hq217 (by assumption) ?r217
      case hi217 => (simp only [List.getElem?_toArray, List.getElem?_cons_succ, List.getElem?_cons_zero]; rfl)
      case hd217 => rfl
      case hw217 => rfl
      case hy217 => ((intro w hSw; (try dsimp only at hSw); go_simp) <;> (with_reducible rfl))
      case hq217 => exact fun _ _ _ h => h
      simp only [List.set_cons_succ, List.set_cons_zero]
      refine take_at (i := 3) (d := 175) (oi := ?o218) (v := ?v218) ?hi218 ?hd218 (by kernel_rfl) (by kernel_rfl) (by kernel_rfl) ?hw218 ?hy218 ?hq218 (by assumption) ?r218
      case hi218 => (simp only [List.getElem?_toArray, List.getElem?_cons_succ, List.getElem?_cons_zero]; rfl)
      case hd218 => rfl
      case hw218 => rfl
      case hy218 => ((intro w hSw; (try dsimp only at hSw); go_simp) <;> (with_reducible rfl))
      case hq218 => exact fun _ _ _ h => h
      simp only [List.set_cons_succ, List.set_cons_zero]
      refine take_at (i := 4) (d := 176) (oi := ?o219) (v := ?v219) ?hi219 ?hd219 (by kernel_rfl) (by kernel_rfl) (by kernel_rfl) ?hw219 ?hy219 ?hq219 (by assumption) ?r219
      case hi219 => (simp only [List.getElem?_toArray, List.getElem?_cons_succ, List.getElem?_cons_zero]; rfl)
      case hd219 => rfl
      case hw219 => rfl
      case hy219 => ((intro w hSw; (try dsimp only at hSw); go_simp) <;> (with_reducible rfl))
      case hq219 => exact fun _ _ _ h => h
      simp only [List.set_cons_succ, List.set_cons_zero]
      refine take_at (i := 5) (d := 177) (oi := ?o220) (v := ?v220) ?hi220 ?hd220 (by kernel_rfl) (by kernel_rfl) (by kernel_rfl) ?hw220 ?hy220 ?hq220 (by assumption) ?r220
      case hi220 => (simp only [List.getElem?_toArray, List.getElem?_cons_succ, List.getElem?_cons_zero]; rfl)
      case hd220 => rfl
      case hw220 => rfl
      case hy220 => ((intro w hSw; (try dsimp only at hSw); go_simp) <;> (with_reducible rfl))
      case hq220 => exact fun _ _ _ h => h
      simp only [List.set_cons_succ, List.set_cons_zero]
      refine take_at (i := 6) (d := 178) (oi := ?o221) (v := ?v221) ?hi221 ?hd221 (by kernel_rfl) (by kernel_rfl) (by kernel_rfl) ?hw221 ?hy221 ?hq221 (by assumption) ?r221
      case hi221 => (simp only [List.getElem?_toArray, List.getElem?_cons_succ, List.getElem?_cons_zero]; rfl)
      case hd221 => rfl
      case hw221 => rfl
      case hy221 => ((intro w hSw; (try dsimp only at hSw); go_simp) <;> (with_reducible rfl))
      case hq221 => exact fun _ _ _ h => h
      simp only [List.set_cons_succ, List.set_cons_zero]
      refine take_at (i := 7) (d := 179) (oi := ?o222) (v := ?v222) ?hi222 ?hd222 (by kernel_rfl) (by kernel_rfl) (by kernel_rfl) ?hw222 ?hy222 ?hq222 (by assumption) ?r222
      case hi222 => (simp only [List.getElem?_toArray, List.getElem?_cons_succ, List.getElem?_cons_zero]; rfl)
      case hd222 => rfl
      case hw222 => rfl
      case hy222 => ((intro w hSw; (try dsimp only at hSw); go_simp) <;> (with_reducible rfl))
      case hq222 => exact fun _ _ _ h => h
      simp only [List.set_cons_succ, List.set_cons_zero]
      refine take_at (i := 8) (d := 180) (oi := ?o223) (v := ?v223) ?hi223 ?hd223 (by kernel_rfl) (by kernel_rfl) (by kernel_rfl) ?hw223 ?hy223 ?hq223 (by assumption) ?r223
      case hi223 => (simp only [List.getElem?_toArray, List.getElem?_cons_succ, List.getElem?_cons_zero]; rfl)
      case hd223 => rfl
      case hw223 => rfl
      case hy223 => ((intro w hSw; (try dsimp only at hSw); go_simp) <;> (with_reducible rfl))
      case hq223 => exact fun _ _ _ h => h
      simp only [List.set_cons_succ, List.set_cons_zero]
      refine take_at (i := 9) (d := 181) (oi := ?o224) (v := ?v224) ?hi224 ?hd224 (by kernel_rfl) (by kernel_rfl) (by kernel_rfl) ?hw224 ?hy224 ?hq224 (by assumption) ?r224
      case hi224 => (simp only [List.getElem?_toArray, List.getElem?_cons_succ, List.getElem?_cons_zero]; rfl)
      case hd224 => rfl
      case hw224 => rfl
      case hy224 => ((intro w hSw; (try dsimp only at hSw); go_simp) <;> (with_reducible rfl))
      case hq224 => exact fun _ _ _ h => h
      simp only [List.set_cons_succ, List.set_cons_zero]
      refine take_at (i := 10) (d := 182) (oi := ?o225) (v := ?v225) ?hi225 ?hd225 (by kernel_rfl) (by kernel_rfl) (by kernel_rfl) ?hw225 ?hy225 ?hq225 (by assumption) ?r225
      case hi225 => (simp only [List.getElem?_toArray, List.getElem?_cons_succ, List.getElem?_cons_zero]; rfl)
      case hd225 => rfl
      case hw225 => rfl
      case hy225 => ((intro w hSw; (try dsimp only at hSw); go_simp) <;> (with_reducible rfl))
      case hq225 => exact fun _ _ _ h => h
      simp only [List.set_cons_succ, List.set_cons_zero]
      refine take_at (i := 11) (d := 183) (oi := ?o226) (v := ?v226) ?hi226 ?hd226 (by kernel_rfl) (by kernel_rfl) (by kernel_rfl) ?hw226 ?hy226 ?hq226 (by assumption) ?r226
      case hi226 => (simp only [List.getElem?_toArray, List.getElem?_cons_succ, List.getElem?_cons_zero]; rfl)
      case hd226 => rfl
      case hw226 => rfl
      case hy226 => ((intro w hSw; (try dsimp only at hSw); go_simp) <;> (with_reducible rfl))
      case hq226 => exact fun _ _ _ h => h
      simp only [List.set_cons_succ, List.set_cons_zero]
      refine take_at (i := 12) (d := 184) (oi := ?o227) (v := ?v227) ?hi227 ?hd227 (by kernel_rfl) (by kernel_rfl) (by kernel_rfl) ?hw227 ?hy227 ?hq227 (by assumption) ?r227
      case hi227 => (simp only [List.getElem?_toArray, List.getElem?_cons_succ, List.getElem?_cons_zero]; rfl)
      case hd227 => rfl
      case hw227 => rfl
      case hy227 => ((intro w hSw; (try dsimp only at hSw); go_simp) <;> (with_reducible rfl))
      case hq227 => exact fun _ _ _ h => h
      simp only [List.set_cons_succ, List.set_cons_zero]
      refine take_at (i := 13) (d := 185) (oi := ?o228) (v := ?v228) ?hi228 ?hd228 (by kernel_rfl) (by kernel_rfl) (by kernel_rfl) ?hw228 ?hy228 ?hq228 (by assumption) ?r228
      case hi228 => (simp only [List.getElem?_toArray, List.getElem?_cons_succ, List.getElem?_cons_zero]; rfl)
      case hd228 => rfl
      case hw228 => rfl
      case hy228 => ((intro w hSw; (try dsimp only at hSw); go_simp) <;> (with_reducible rfl))
      case hq228 => exact fun _ _ _ h => h
      simp only [List.set_cons_succ, List.set_cons_zero]
      refine take_at (i := 14) (d := 186) (oi := ?o229) (v := ?v229) ?hi229 ?hd229 (by kernel_rfl) (by kernel_rfl) (by kernel_rfl) ?hw229 ?hy229 ?hq229 (by assumption) ?r229
      case hi229 => (simp only [List.getElem?_toArray, List.getElem?_cons_succ, List.getElem?_cons_zero]; rfl)
      case hd229 => rfl
      case hw229 => rfl
      case hy229 => ((intro w hSw; (try dsimp only at hSw); go_simp) <;> (with_reducible rfl))
      case hq229 => exact fun _ _ _ h => h
      simp only [List.set_cons_succ, List.set_cons_zero]
      refine take_at (i := 15) (d := 187) (oi := ?o230) (v := ?v230) ?hi230 ?hd230 (by kernel_rfl) (by kernel_rfl) (by kernel_rfl) ?hw230 ?hy230 ?hq230 (by assumption) ?r230
      case hi230 => (simp only [List.getElem?_toArray, List.getElem?_cons_succ, List.getElem?_cons_zero]; rfl)
      case hd230 => rfl
      case hw230 => rfl
      case hy230 => ((intro w hSw; (try dsimp only at hSw); go_simp) <;> (with_reducible rfl))
      case hq230 => exact fun _ _ _ h => h
      simp only [List.set_cons_succ, List.set_cons_zero]
      refine take_at (i := 16) (d := 188) (oi := ?o231) (v := ?v231) ?hi231 ?hd231 (by kernel_rfl) (by kernel_rfl) (by kernel_rfl) ?hw231 ?hy231 ?hq231 (by assumption) ?r231
      case hi231 => (simp only [List.getElem?_toArray, List.getElem?_cons_succ, List.getElem?_cons_zero]; rfl)
      case hd231 => rfl
      case hw231 => rfl
      case hy231 => ((intro w hSw; (try dsimp only at hSw); go_simp) <;> (with_reducible rfl))
      case hq231 => exact fun _ _ _ h => h
      simp only [List.set_cons_succ, List.set_cons_zero]
      refine take_at (i := 17) (d := 189) (oi := ?o232) (v := ?v232) ?hi232 ?hd232 (by kernel_rfl) (by kernel_rfl) (by kernel_rfl) ?hw232 ?hy232 ?hq232 (by assumption) ?r232
      case hi232 => (simp only [List.getElem?_toArray, List.getElem?_cons_succ, List.getElem?_cons_zero]; rfl)
      case hd232 => rfl
      case hw232 => rfl
      case hy232 => ((intro w hSw; (try dsimp only at hSw); go_simp) <;> (with_reducible rfl))
      case hq232 => exact fun _ _ _ h => h
      simp only [List.set_cons_succ, List.set_cons_zero]
      refine take_at (i := 18) (d := 190) (oi := ?o233) (v := ?v233) ?hi233 ?hd233 (by kernel_rfl) (by kernel_rfl) (by kernel_rfl) ?hw233 ?hy233 ?hq233 (by assumption) ?r233
      case hi233 => (simp only [List.getElem?_toArray, List.getElem?_cons_succ, List.getElem?_cons_zero]; rfl)
      case hd233 => rfl
      case hw233 => rfl
      case hy233 => ((intro w hSw; (try dsimp only at hSw); go_simp) <;> (with_reducible rfl))
      case hq233 => exact fun _ _ _ h => h
      simp only [List.set_cons_succ, List.set_cons_zero]
      refine take_at (i := 19) (d := 191) (oi := ?o234) (v := ?v234) ?hi234 ?hd234 (by kernel_rfl) (by kernel_rfl) (by kernel_rfl) ?hw234 ?hy234 ?hq234 (by assumption) ?r234
      case hi234 => (simp only [List.getElem?_toArray, List.getElem?_cons_succ, List.getElem?_cons_zero]; rfl)
      case hd234 => rfl
      case hw234 => rfl
      case hy234 => ((intro w hSw; (try dsimp only at hSw); go_simp) <;> (with_reducible rfl))
      case hq234 => exact fun _ _ _ h => h
      simp only [List.set_cons_succ, List.set_cons_zero]
      refine take_at (i := 20) (d := 192) (oi := ?o235) (v := ?v235) ?hi235 ?hd235 (by kernel_rfl) (by kernel_rfl) (by kernel_rfl) ?hw235 ?hy235 ?hq235 (by assumption) ?r235
      case hi235 => (simp only [List.getElem?_toArray, List.getElem?_cons_succ, List.getElem?_cons_zero]; rfl)
      case hd235 => rfl
      case hw235 => rfl
      case hy235 => ((intro w hSw; (try dsimp only at hSw); go_simp) <;> (with_reducible rfl))
      case hq235 => exact fun _ _ _ h => h
      simp only [List.set_cons_succ, List.set_cons_zero]
      refine take_at (i := 21) (d := 193) (oi := ?o236) (v := ?v236) ?hi236 ?hd236 (by kernel_rfl) (by kernel_rfl) (by kernel_rfl) ?hw236 ?hy236 ?hq236 (by assumption) ?r236
      case hi236 => (simp only [List.getElem?_toArray, List.getElem?_cons_succ, List.getElem?_cons_zero]; rfl)
      case hd236 => rfl
      case hw236 => rfl
      case hy236 => ((intro w hSw; (try dsimp only at hSw); go_simp) <;> (with_reducible rfl))
      case hq236 => exact fun _ _ _ h => h
      simp only [List.set_cons_succ, List.set_cons_zero]
      refine take_at (i := 22) (d := 194) (oi := ?o237) (v := ?v237) ?hi237 ?hd237 (by kernel_rfl) (by kernel_rfl) (by kernel_rfl) ?hw237 ?hy237 ?hq237 (by assumption) ?r237
      case hi237 => (simp only [List.getElem?_toArray, List.getElem?_cons_succ, List.getElem?_cons_zero]; rfl)
      case hd237 => rfl
      case hw237 => rfl
      case hy237 => ((intro w hSw; (try dsimp only at hSw); go_simp) <;> (with_reducible rfl))
      case hq237 => exact fun _ _ _ h => h
      simp only [List.set_cons_succ, List.set_cons_zero]
      refine take_at (i := 23) (d := 195) (oi := ?o238) (v := ?v238) ?hi238 ?hd238 (by kernel_rfl) (by kernel_rfl) (by kernel_rfl) ?hw238 ?hy238 ?hq238 (by assumption) ?r238
      case hi238 => (simp only [List.getElem?_toArray, List.getElem?_cons_succ, List.getElem?_cons_zero]; rfl)
      case hd238 => rfl
      case hw238 => rfl
      case hy238 => ((intro w hSw; (try dsimp only at hSw); go_simp) <;> (with_reducible rfl))
      case hq238 => exact fun _ _ _ h => h
      simp only [List.set_cons_succ, List.set_cons_zero]
      refine take_at (i := 24) (d := 196) (oi := ?o239) (v := ?v239) ?hi239 ?hd239 (by kernel_rfl) (by kernel_rfl) (by kernel_rfl) ?hw239 ?hy239 ?hq239 (by assumption) ?r239
      case hi239 => (simp only [List.getElem?_toArray, List.getElem?_cons_succ, List.getElem?_cons_zero]; rfl)
      case hd239 => rfl
      case hw239 => rfl
      case hy239 => ((intro w hSw; (try dsimp only at hSw); obtain ⟨k0, k1, k2⟩ := (X0.out _ hSw).cells; go_simp) <;> (with_reducible rfl))
      case hq239 => exact fun _ _ _ h => h
      simp only [List.set_cons_succ, List.set_cons_zero]
      refine take_at (i := 25) (d := 197) (oi := ?o240) (v := ?v240) ?hi240 ?hd240 (by kernel_rfl) (by kernel_rfl) (by kernel_rfl) ?hw240 ?hy240 ?hq240 (by assumption) ?r240
      case hi240 => (simp only [List.getElem?_toArray, List.getElem?_cons_succ, List.getElem?_cons_zero]; rfl)
      case hd240 => rfl
      case hw240 => rfl
      case hy240 => ((intro w hSw; (try dsimp only at hSw); go_simp) <;> (with_reducible rfl))
      case hq240 => exact fun _ _ _ h => h
      simp only [List.set_cons_succ, List.set_cons_zero]
      refine take_at (i := 26) (d := 198) (oi := ?o241) (v := ?v241) ?hi241 ?hd241 (by kernel_rfl) (by kernel_rfl) (by kernel_rfl) ?hw241 ?hy241 ?hq241 (by assumption) ?r241
      case hi241 => (simp only [List.getElem?_toArray, List.getElem?_cons_succ, List.getElem?_cons_zero]; rfl)
      case hd241 => rfl
      case hw241 => rfl
      case hy241 => ((intro w hSw; (try dsimp only at hSw); go_simp) <;> (with_reducible rfl))
      case hq241 => exact fun _ _ _ h => h
      simp only [List.set_cons_succ, List.set_cons_zero]
      refine take_at (i := 27) (d := 199) (oi := ?o242) (v := ?v242) ?hi242 ?hd242 (by kernel_rfl) (by kernel_rfl) (by kernel_rfl) ?hw242 ?hy242 ?hq242 (by assumption) ?r242
      case hi242 => (simp only [List.getElem?_toArray, List.getElem?_cons_succ, List.getElem?_cons_zero]; rfl)
      case hd242 => rfl
      case hw242 => rfl
      case hy242 => ((intro w hSw; (try dsimp only at hSw); go_simp) <;> (with_reducible rfl))
      case hq242 => exact fun _ _ _ h => h
      simp only [List.set_cons_succ, List.set_cons_zero]
      refine take_at (i := 28) (d := 200) (oi := ?o243) (v := ?v243) ?hi243 ?hd243 (by kernel_rfl) (by kernel_rfl) (by kernel_rfl) ?hw243 ?hy243 ?hq243 (by assumption) ?r243
      case hi243 => (simp only [List.getElem?_toArray, List.getElem?_cons_succ, List.getElem?_cons_zero]; rfl)
      case hd243 => rfl
      case hw243 => rfl
      case hy243 => ((intro w hSw; (try dsimp only at hSw); go_simp) <;> (with_reducible rfl))
      case hq243 => exact fun _ _ _ h => h
      simp only [List.set_cons_succ, List.set_cons_zero]
      refine take_at (i := 29) (d := 201) (oi := ?o244) (v := ?v244) ?hi244 ?hd244 (by kernel_rfl) (by kernel_rfl) (by kernel_rfl) ?hw244 ?hy244 ?hq244 (by assumption) ?r244
      case hi244 => (simp only [List.getElem?_toArray, List.getElem?_cons_succ, List.getElem?_cons_zero]; rfl)
      case hd244 => rfl
      case hw244 => rfl
      case hy244 => ((intro w hSw; (try dsimp only at hSw); obtain ⟨k0, k1, k2⟩ := (X0.out _ hSw).cells; go_simp) <;> (with_reducible rfl))
      case hq244 => exact fun _ _ _ h => h
      simp only [List.set_cons_succ, List.set_cons_zero]
      refine take_at (i := 30) (d := 202) (oi := ?o245) (v := ?v245) ?hi245 ?hd245 (by kernel_rfl) (by kernel_rfl) (by kernel_rfl) ?hw245 ?hy245 ?hq245 (by assumption) ?r245
      case hi245 => (simp only [List.getElem?_toArray, List.getElem?_cons_succ, List.getElem?_cons_zero]; rfl)
      case hd245 => rfl
      case hw245 => rfl
      case hy245 => ((intro w hSw; (try dsimp only at hSw); go_simp) <;> (with_reducible rfl))
      case hq245 => exact fun _ _ _ h => h
      simp only [List.set_cons_succ, List.set_cons_zero]
      refine take_at (i := 31) (d := 203) (oi := ?o246) (v := ?v246) ?hi246 ?hd246 (by kernel_rfl) (by kernel_rfl) (by kernel_rfl) ?hw246 ?hy246 ?hq246 (by assumption) ?r246
      case hi246 => (simp only [List.getElem?_toArray, List.getElem?_cons_succ, List.getElem?_cons_zero]; rfl)
      case hd246 => rfl
      case hw246 => rfl
      case hy246 => ((intro w hSw; (try dsimp only at hSw); go_simp) <;> (with_reducible rfl))
      case hq246 => exact fun _ _ _ h => h
      simp only [List.set_cons_succ, List.set_cons_zero]
      refine call_at (i := 32) (d := 204) (oi := ?o247) (f := ?f247) (args := ?a247) ?hi247 ?hd247 (by kernel_rfl) ?hw247 ?he247 ?hc247
      case hi247 => (simp only [List.getElem?_toArray, List.getElem?_cons_succ, List.getElem?_cons_zero]; rfl)
      case hd247 => rfl
      case hw247 => rfl
      case he247 => (go_simp; constructor <;> with_reducible rfl)
      have em := alike_self t A1 u c1 (B.take u) _ HS.out.2.1 ((HT.out.on HX.out.2.2.2).on hHeld) ((HX.out.2.2.1.first hu4).on hHeld hHeld.size) hu3 hu2 HL.out.2
      refine em.mono ?_
      rintro r wv ⟨rfl, hb1⟩
      have kb : Below w6.heap.size w6 wv := hHeld.trans (hb1.mono hHeld.size)
      clear em
      refine ⟨_, rfl, kb, fun hHeld => ?_⟩
      simp only [List.set_cons_succ, List.set_cons_zero]
      refine take_at (i := 33) (d := 205) (oi := ?o248) (v := ?v248) ?hi248 ?hd248 (by kernel_rfl) (by kernel_rfl) (by kernel_rfl) ?hw248 ?hy248 ?hq248 (by assumption) ?r248
      case hi248 => (simp only [List.getElem?_toArray, List.getElem?_cons_succ, List.getElem?_cons_zero]; rfl)
      case hd248 => rfl
      case hw248 => rfl
      case hy248 => ((intro w hSw; (try dsimp only at hSw); go_simp) <;> (with_reducible rfl))
      case hq248 => exact fun _ _ _ h => h
      simp only [List.set_cons_succ, List.set_cons_zero]
      refine take_at (i := 34) (d := 206) (oi := ?o249) (v := ?v249) ?hi249 ?hd249 (by kernel_rfl) (by kernel_rfl) (by kernel_rfl) ?hw249 ?hy249 ?hq249 (by assumption) ?r249
      case hi249 => (simp only [List.getElem?_toArray, List.getElem?_cons_succ, List.getElem?_cons_zero]; rfl)
      case hd249 => rfl
      case hw249 => rfl
      case hy249 => ((intro w hSw; (try dsimp only at hSw); go_simp) <;> (with_reducible rfl))
      case hq249 => exact fun _ _ _ h => h
      simp only [List.set_cons_succ, List.set_cons_zero]
      refine call_at (i := 35) (d := 207) (oi := ?o250) (f := ?f250) (args := ?a250) ?hi250 ?hd250 (by kernel_rfl) ?hw250 ?he250 ?hc250
      case hi250 => (simp only [List.getElem?_toArray, List.getElem?_cons_succ, List.getElem?_cons_zero]; rfl)
      case hd250 => rfl
      case hw250 => rfl
      case he250 => (go_simp; constructor <;> with_reducible rfl)
      have em := wakes_true _ ((HT.out.on HX.out.2.2.2).on hHeld)
      refine em.mono ?_
      rintro r wv ⟨rfl, hb1⟩
      have kb : Below w6.heap.size w6 wv := hHeld.trans (hb1.mono hHeld.size)
      clear em
      refine ⟨_, rfl, kb, fun hHeld => ?_⟩
      simp only [List.set_cons_succ, List.set_cons_zero]
      refine take_at (i := 36) (d := 208) (oi := ?o251) (v := ?v251) ?hi251 ?hd251 (by kernel_rfl) (by kernel_rfl) (by kernel_rfl) ?hw251 ?hy251 ?hq251 (by assumption) ?r251
      case hi251 => (simp only [List.getElem?_toArray, List.getElem?_cons_succ, List.getElem?_cons_zero]; rfl)
      case hd251 => rfl
      case hw251 => rfl
      case hy251 => ((intro w hSw; (try dsimp only at hSw); go_simp) <;> (with_reducible rfl))
      case hq251 => exact fun _ _ _ h => h
      simp only [List.set_cons_succ, List.set_cons_zero]
      refine take_at (i := 37) (d := 8) (oi := ?o252) (v := ?v252) ?hi252 ?hd252 (by kernel_rfl) (by kernel_rfl) (by kernel_rfl) ?hw252 ?hy252 ?hq252 (by assumption) ?r252
      case hi252 => (simp only [List.getElem?_toArray, List.getElem?_cons_succ, List.getElem?_cons_zero]; rfl)
      case hd252 => rfl
      case hw252 => rfl
      case hy252 => ((intro w hSw; (try dsimp only at hSw); go_simp) <;> (with_reducible rfl))
      case hq252 => exact fun _ _ _ h => h
      simp only [List.set_cons_succ, List.set_cons_zero]
      refine wpAnyH_done (by kernel_rfl) ?_ _
      go_wp2_with fail
      go_ret
      exact ⟨rfl, HX.out.2.2.2.trans (hHeld.mono HX.out.2.2.2.size)⟩

end Go.Proofs.YtcpdjhkpmaamdaaGreat
