/-
  moultref08.scan, Scan, End, More: their contracts.
-/
import Derived.Test.YtlojkbmoaifkaaaRfc
import Derived.Test.YtlojkbmoaifkaaaDev8
namespace Go.Proofs.Ytlojkbmoaifkaaa
open Go.RowKit
set_option linter.unusedVariables false
set_option linter.unusedSimpArgs false

theorem head_takeP {t : List Int} (ht : Byt t) {x : Int} {m : Nat} {er : Int} (h : Nu.takeP t = (x, m, er)) :
    (er = 0 → 1 ≤ x → HeadAt (2 :: t) x ∧ 2 :: t = headL x ++ t.drop m ∧ (headL x).length + (t.drop m).length = t.length + 1 ∧ (headL x).length ≤ 6) ∧ (er ≠ 0 ∨ x < 1 → ∀ f, ¬ HeadAt (2 :: t) f) := by
  refine ⟨fun he hx => ?_, fun he f hf => ?_⟩
  · subst he
    obtain ⟨h1, h2, h3, h4⟩ := Nu.short_takeP ht h
    have h5 : 2 :: t = headL x ++ t.drop m := by rw [headL, List.cons_append, h1, List.take_append_drop]
    have hN : Num x := ⟨hx, h4⟩
    refine ⟨⟨hN, _, h5⟩, h5, ?_, (head_length hN).1⟩
    have h6 := congrArg List.length h5
    rw [List.length_append, List.length_cons] at h6
    omega
  · obtain ⟨hN, r, e⟩ := hf
    simp only [headL, List.cons_append, List.cons.injEq, true_and] at e
    have h1 := Nu.takeP_short (n := f) (by have := hN.1; omega) hN.2 r
    rw [← e, h] at h1
    simp only [Prod.mk.injEq] at h1
    have := hN.1
    rcases he with he | he
    · exact he h1.2.2
    · omega
theorem head_two {x0 : Int} {t : List Int} (h : x0 ≠ 2) : ∀ f, ¬ HeadAt (x0 :: t) f := fun f hf => h (head_take.1 hf).1
theorem head_nil : ∀ f, ¬ HeadAt [] f := by
  rintro f ⟨_, r, e⟩
  simp [headL] at e
/-- The last lines of a scan that finds no head. -/
theorem scan_none {w W : World} {b : List Int} {r : Nat} (hr : w.heap.size ≤ r) (hB : Below w.heap.size w W) (hb : BoxC W r 0 (.slice none 0 0) 0) : Below w.heap.size w (((W.setCell ⟨r, 0, none⟩ (.int .i64 0)).setCell ⟨r, 1, none⟩ (.slice none 0 0)).setCell ⟨r, 2, none⟩ (.int .i64 0)) ∧ BoxC (((W.setCell ⟨r, 0, none⟩ (.int .i64 0)).setCell ⟨r, 1, none⟩ (.slice none 0 0)).setCell ⟨r, 2, none⟩ (.int .i64 0)) r 0 (.slice none 0 0) 0 :=
  ⟨((hB.setCell (p := ⟨r, 0, none⟩) hr _).setCell (p := ⟨r, 1, none⟩) hr _).setCell (p := ⟨r, 2, none⟩) hr _, ((hb.s0 0).s1 (.slice none 0 0)).s2 0⟩

set_option maxRecDepth 100000 in
set_option maxHeartbeats 8000000 in
theorem rscan_any (A : Option Addr) (n c : Nat) (b : List Int) (w : World) (hr : Rd w w.heap.size .u8 A n b) (hb : Byt b) (hnc : n ≤ c) (hn : n ≤ 1000000) :
    Calls Try.prog 36 #[.slice A n c] w (ScanT w b) := by
  obtain ⟨i0, hi, hz0, hz1, hz2⟩ := info_parts Ga.info_u8
  obtain ⟨j0, hj, hy0, hy1, hy2⟩ := info_partsV info_entry
  obtain ⟨r, hr'⟩ : ∃ r, r = w.heap.size := ⟨_, rfl⟩
  obtain ⟨w0, hw0⟩ : ∃ w0, w0 = w.alloc (.cells #[.int .i64 0, .slice none 0 0, .int .i64 0] 36) := ⟨_, rfl⟩
  have hB0 : Below w.heap.size w w0 := by rw [hw0]; exact below_al (below_d0 w) _
  have b0 : BoxC w0 r 0 (.slice none 0 0) 0 := by rw [hw0, hr']; exact BoxC.new _ _ _ _
  have hwr : w.heap.size ≤ r := by omega
  cases b with
  | nil =>
    have h0 : n = 0 := hr.1.symm
    subst h0
    obtain ⟨d0, d1, d2⟩ := b0.cells
    have f0 := b0.frozen 0
    have f1 := b0.frozen 1
    have f2 := b0.frozen 2
    have H := Lib.hid (⟨hB0, b0, hw0, hr'⟩ : _ ∧ _ ∧ _ ∧ _)
    rw [hw0, hr'] at d0 d1 d2 f0 f1 f2
    clear hB0 b0 hw0 hr'
    go_enter Try.func36, Try.ntmps36
    go_wp2_with fail
    rw [← H.out.2.2.1, ← H.out.2.2.2]
    have hB := H.out.1
    obtain ⟨k0, k1, k2⟩ := H.out.2.1.cells
    refine bodyPost_ret (v := .tuple #[.agg #[.int .i64 0, .slice none 0 0, .int .i64 0], .complex .f64 0 0, .int .i64 11]) (by simp [results, Try.results36, go_sem, k0, k1, k2]) rfl ⟨.inr ⟨head_nil, rfl⟩, hB⟩
  | cons x0 t =>
  have hn1 : t.length + 1 = n := hr.1
  have ht : Byt t := fun z hz => hb z (List.mem_cons_of_mem _ hz)
  have hx0 := hb x0 (List.mem_cons_self ..)
  obtain ⟨ab, ao, rfl, hab, hac⟩ := hr.2 (by omega)
  have c0w : w.cell? ⟨ab, ao, none⟩ = some (.int .u8 x0) := by
    have h := hac 0 (by omega)
    simpa using h
  have c0 : w0.cell? ⟨ab, ao, none⟩ = some (.int .u8 x0) := (Below.cell hB0 (p := ⟨ab, ao, none⟩) hab).trans c0w
  have tn : decide ((n : Int) < 1) = false := by simp; omega
  have tn' : ¬ ((n : Int) < 1) := by omega
  have Hl := Lib.hid (⟨hr, hb, ht, hn1⟩ : _ ∧ _ ∧ _ ∧ _)
  have hn0 : 0 < n := by omega
  clear hr hb ht hac c0w
  by_cases h2 : x0 = 2
  case neg =>
    have t2 : (x0 == 2) = false := by simp; omega
    have t2' : ¬ (x0 = 2) := h2
    obtain ⟨d0, d1, d2⟩ := b0.cells
    have f0 := b0.frozen 0
    have f1 := b0.frozen 1
    have f2 := b0.frozen 2
    have H := Lib.hid (⟨hB0, b0, hw0, hr'⟩ : _ ∧ _ ∧ _ ∧ _)
    rw [hw0] at c0
    rw [hw0, hr'] at d0 d1 d2 f0 f1 f2
    clear hB0 b0 hw0 hr' hn1 h2
    go_enter Try.func36, Try.ntmps36
    go_wp2_with fail
    rw [← H.out.2.2.1, ← H.out.2.2.2]
    have hB := H.out.1
    obtain ⟨k0, k1, k2⟩ := H.out.2.1.cells
    refine bodyPost_ret (v := .tuple #[.agg #[.int .i64 0, .slice none 0 0, .int .i64 0], .complex .f64 0 0, .int .i64 11]) (by simp [results, Try.results36, go_sem, k0, k1, k2]) rfl ⟨.inr ⟨head_two t2', rfl⟩, hB⟩
  subst h2
  obtain ⟨A1, hrun1, hcut1⟩ := cut_tail8 Try.underlying24 hi hz1 (some ⟨ab, ao, none⟩) n c 1 (by omega) hnc
  obtain ⟨n1, hn1'⟩ : ∃ n1, n1 = n - 1 := ⟨_, rfl⟩
  obtain ⟨c1, hc1'⟩ : ∃ c1, c1 = c - 1 := ⟨_, rfl⟩
  rw [← hn1', ← hc1'] at hrun1
  have r1 := hcut1 Hl.out.1
  rw [← hn1', List.drop_succ_cons, List.drop_zero] at r1
  have hrun1' : ∀ W : World, (Instr.slice 24 (.slice (some ⟨ab, ao, none⟩) n c) (some (.int .i64 1)) none none).run Try.prog W = .ok (.slice A1 n1 c1) W := hrun1
  obtain ⟨x, m, er, hP⟩ : ∃ x m er, Nu.takeP t = (x, m, er) := ⟨_, _, _, rfl⟩
  have hnn1 : n1 ≤ c1 ∧ n1 ≤ 1000000 := by omega
  have HH := Lib.hid (head_takeP Hl.out.2.2.1 hP)
  obtain ⟨d0, d1, d2⟩ := b0.cells
  have f0 := b0.frozen 0
  have f1 := b0.frozen 1
  have f2 := b0.frozen 2
  have H := Lib.hid (⟨hB0, b0, hw0, hr', r1, hP, c0⟩ : _ ∧ _ ∧ _ ∧ _ ∧ _ ∧ _ ∧ _)
  rw [hw0] at c0
  rw [hw0, hr'] at d0 d1 d2 f0 f1 f2
  clear hB0 b0 hw0 hr' hn1 r1 hP hrun1 hcut1 hn1' hc1' hx0
  go_enter Try.func36, Try.ntmps36
  go_wp2_with fail
  rw [← H.out.2.2.1, ← H.out.2.2.2.1]
  clear d0 d1 d2 f0 f1 f2 c0
  refine (Nu.rtake_any A1 n1 c1 t w0 (H.out.2.2.2.2.1.on H.out.1 H.out.1.size) Hl.out.2.2.1 hnn1.1 (by have := hnn1.2; omega)).mono ?_
  rintro e w1 ⟨⟨v, rfl, hg, -⟩, hb1⟩
  rw [H.out.2.2.2.2.2.1] at hg ⊢
  dsimp only at hg ⊢
  have b1 := H.out.2.1.below hb1
  have B1 := H.out.1.trans (hb1.mono H.out.1.size)
  obtain ⟨d0, d1, d2⟩ := b1.cells
  have f0 := b1.frozen 0
  have f1 := b1.frozen 1
  have f2 := b1.frozen 2
  by_cases hbad : er ≠ 0 ∨ x < 1
  · have HN := Lib.hid (HH.out.2 hbad)
    have H1 := Lib.hid (⟨b1, B1⟩ : _ ∧ _)
    clear hg b1 B1 hb1
    by_cases her : er = 0
    · have hx1 : x < 1 := by rcases hbad with h | h; exact absurd her h; exact h
      have tx : decide (x < 1) = true := by simp; omega
      subst her
      clear hbad
      go_wp2_with fail
      obtain ⟨hB, hb3⟩ := scan_none (b := []) hwr H1.out.2 H1.out.1
      obtain ⟨k0, k1, k2⟩ := hb3.cells
      refine bodyPost_ret (v := .tuple #[.agg #[.int .i64 0, .slice none 0 0, .int .i64 0], .complex .f64 0 0, .int .i64 11]) (by simp [results, Try.results36, go_sem, k0, k1, k2]) rfl ⟨.inr ⟨HN.out, rfl⟩, hB⟩
    · have te : (er == 0) = false := by simp; omega
      clear hbad
      go_wp2_with fail
      obtain ⟨hB, hb3⟩ := scan_none (b := []) hwr H1.out.2 H1.out.1
      obtain ⟨k0, k1, k2⟩ := hb3.cells
      refine bodyPost_ret (v := .tuple #[.agg #[.int .i64 0, .slice none 0 0, .int .i64 0], .complex .f64 0 0, .int .i64 11]) (by simp [results, Try.results36, go_sem, k0, k1, k2]) rfl ⟨.inr ⟨HN.out, rfl⟩, hB⟩
  have her : er = 0 := Classical.byContradiction fun h => hbad (.inl h)
  have hx1 : 1 ≤ x := by
    have : ¬ x < 1 := fun h => hbad (.inr h)
    omega
  obtain ⟨hHd, hbe, hlen, hh6⟩ := HH.out.1 her hx1
  subst her
  rw [if_pos rfl] at hg
  obtain ⟨AR, cR, rfl, hrowR⟩ := hg.row rfl rfl
  obtain ⟨lr, hlr⟩ : ∃ lr, (t.drop m).length = lr := ⟨_, rfl⟩
  obtain ⟨h, hh⟩ : ∃ h, (headL x).length = h := ⟨_, rfl⟩
  rw [hlr] at hlen hrowR ⊢
  rw [hh] at hlen hh6
  have hhn : h + lr = n := by have := Hl.out.2.2.2; omega
  have tx : decide (x < 1) = false := by simp; omega
  have tx' : ¬ (x < 1) := by omega
  have hsub : IntKind.i64.wrap ((n : Int) - (lr : Int)) = (h : Int) := by rw [IntKind.wrap_i64] <;> omega
  obtain ⟨z, hz⟩ : ∃ z, z = w1.heap.size := ⟨_, rfl⟩
  obtain ⟨w2, hw2⟩ : ∃ w2, w2 = w1.alloc (.cells #[.int .i64 x, .slice none 0 0, .int .i64 (h : Int)] 36) := ⟨_, rfl⟩
  have hb2 : Below w1.heap.size w1 w2 := by rw [hw2]; exact below_al (below_d0 w1) _
  have B2 := B1.trans (hb2.mono B1.size)
  have bz2 : BoxC w2 z x (.slice none 0 0) (h : Int) := by rw [hw2, hz]; exact BoxC.new _ _ _ _
  have br2 := b1.below hb2
  have hrz : r < z := by rw [hz]; exact b1.lt
  have hs2 : w2.heap.size = z + 1 := by rw [hw2, hz]; simp
  have rdh : Rd w2 w2.heap.size .u8 (some ⟨ab, ao, none⟩) h (headL x) := by
    have h1 := (Hl.out.1.on B2 B2.size).first (m := h) (by omega)
    have h2 : (2 :: t).take h = headL x := by rw [hbe, ← hh, List.take_left]
    rwa [h2] at h1
  have hcutH := cut_firstR Try.underlying24 hi (some ⟨ab, ao, none⟩) n c h (by omega)
  have hch := rchain_one (c := c) w2 (z + 1) 24 hs2.symm headE_pt_from rdh (head_byt hHd.1) (by omega)
  obtain ⟨e0, e1, e2⟩ := bz2.cells
  have H2 := Lib.hid (⟨B2, bz2, br2, hrz, hs2, hw2, hz, hHd, hbe, hh, hlr⟩ : _ ∧ _ ∧ _ ∧ _ ∧ _ ∧ _ ∧ _ ∧ _ ∧ _ ∧ _ ∧ _)
  rw [hw2, hz] at e0 e1 e2
  clear hb2 B2 bz2 br2 hrz hs2 hw2 hz hHd hbe hh hlr rdh hbad B1 b1 hb1 hrowR hg hlen hh6 d0 d1 d2 f0 f1 f2
  go_wp2_with fail
  rw [← H2.out.2.2.2.2.2.1, ← H2.out.2.2.2.2.2.2.1]
  clear e0 e1 e2
  refine hch.mono ?_
  rintro e w3 ⟨⟨xp, yp, rfl, hpt⟩, hb3⟩
  have B3 := H2.out.1.trans (hb3.mono H2.out.1.size)
  have bz3 := H2.out.2.1.below hb3
  have br3 := H2.out.2.2.1.below hb3
  have hsz3 := hb3.size
  have hzlt : z < w3.heap.size := by have := H2.out.2.2.2.2.1; omega
  obtain ⟨T, hT⟩ : ∃ T, T = t.drop m := ⟨_, rfl⟩
  have H3 := Lib.hid (⟨B3, bz3, br3, hpt⟩ : _ ∧ _ ∧ _ ∧ _)
  have Hz := Lib.hid (⟨H2.out.2.2.2.1, hwr, hzlt⟩ : r < z ∧ w.heap.size ≤ r ∧ z < w3.heap.size)
  clear B3 bz3 br3 hpt hb3 hch hsub hhn hcutH hsz3 hzlt
  go_wp2_with fail
  go_loopw [9] (fun zv wr => ∃ (cs : List (List EnP)) (T : List Int) (u N cN xe ye : Nat) (AN : Option Addr), zv = .complex .f64 xe ye ∧ Good cs ∧ 2 :: t = (headL x ++ blksL (headE x) cs) ++ T ∧ (headL x ++ blksL (headE x) cs).length = u ∧ cs.flatten.length = N ∧ Ga.Pt xe ye (blksE (headE x) cs) ∧
      BoxC wr z x (.slice AN N cN) (u : Int) ∧ wr.ownsRow w.heap.size 45 3 (.slice AN N cN) N (cs.flatten.flatMap EnP.cs) ∧ BoxC wr r 0 (.slice none 0 0) 0 ∧ Below w.heap.size w wr) (fun _ wr => n - (intOf ((wr.cell? ⟨z, 2, none⟩).getD undef)).toNat)
  case atStart => exact ⟨[], t.drop m, h, 0, 0, xp, yp, none, rfl, Good.nil, by simpa [blksL] using H2.out.2.2.2.2.2.2.2.2.1, by simp only [blksL, List.append_nil]; exact H2.out.2.2.2.2.2.2.2.2.2.1, rfl, H3.out.2.2.2, H3.out.2.1, World.ownsRow_nil _ _ _ _, H3.out.2.2.1, H3.out.1⟩
  obtain ⟨cs, T', u, N, cN, xe, ye, AN, rfl, hgd, hbT, hu, hN, hpt, bz, hown, br, hB⟩ := hrel
  have hun : u ≤ n ∧ T'.length = n - u := by
    have h1 := congrArg List.length hbT
    rw [List.length_append, hu, List.length_cons, Hl.out.2.2.2] at h1
    omega
  have hNb : N ≤ 4 * n := by
    have h1 := flat_le hgd
    have h2 := blks_ge (p := headE x) hgd
    have h3 := hu
    rw [List.length_append] at h3
    omega
  obtain ⟨A7, hrun7, hcut7⟩ := cut_tail8 Try.underlying24 hi hz1 (some ⟨ab, ao, none⟩) n c u hun.1 hnc
  have r7 := hcut7 (Hl.out.1.on hB hB.size)
  have hdr : (2 :: t).drop u = T' := by rw [hbT, ← hu, List.drop_left]
  rw [hdr] at r7
  obtain ⟨n7, hn7⟩ : ∃ k, k = n - u := ⟨_, rfl⟩
  obtain ⟨c7, hc7⟩ : ∃ k, k = c - u := ⟨_, rfl⟩
  have hnc7 : n7 ≤ c7 ∧ n7 ≤ 1000000 := by omega
  rw [← hn7, ← hc7] at hrun7
  rw [← hn7] at r7
  have hTb : Byt T' := by rw [← hdr]; exact Hl.out.2.1.drop u
  obtain ⟨d0, d1, d2⟩ := bz.cells
  have HI := Lib.hid (⟨hgd, hbT, hu, hN, hpt, bz, hown, br, hB, r7, hTb, hn7⟩ : _ ∧ _ ∧ _ ∧ _ ∧ _ ∧ _ ∧ _ ∧ _ ∧ _ ∧ _ ∧ _ ∧ _)
  clear hgd hbT hu hN hpt bz hown br hB r7 hdr hTb hcut7 hn7 hc7
  go_wp2_with fail
  refine (rbof_any A7 n7 c7 T' wr (.inl HI.out.2.2.2.2.1) HI.out.2.2.2.2.2.2.2.2.2.1 HI.out.2.2.2.2.2.2.2.2.2.2.1 hnc7.1 hnc7.2).mono ?_
  rintro e w4 ⟨hR, hb4⟩
  have bz4 := HI.out.2.2.2.2.2.1.below hb4
  have br4 := HI.out.2.2.2.2.2.2.2.1.below hb4
  have own4 := own_keep HI.out.2.2.2.2.2.2.1 hb4
  have B4 := HI.out.2.2.2.2.2.2.2.2.1.trans (hb4.mono HI.out.2.2.2.2.2.2.2.2.1.size)
  clear d0 d1 d2
  obtain ⟨d0, d1, d2⟩ := bz4.cells
  rcases hR with ⟨l, A5, c5, m5, x5, y5, hBA, rfl, hm5, hlc, es5, hpe⟩ | ⟨hno, rfl⟩
  · obtain ⟨hgl, s5, hs5⟩ := hBA
    have hm8 : 5 ≤ m5 ∧ u + m5 ≤ n := by
      have h1 := congrArg List.length hs5
      rw [List.length_append, ← hm5, hun.2] at h1
      have h2 := block_length (blksE (headE x) cs) l
      omega
    obtain ⟨q, hq⟩ : ∃ q, l.length = q := ⟨_, rfl⟩
    rw [hq] at hlc es5 ⊢
    have hq4 : q ≤ 4 := by rw [← hq]; exact hgl.2.1
    obtain ⟨um, hum⟩ : ∃ k, k = u + m5 := ⟨_, rfl⟩
    have hadd : IntKind.i64.wrap ((u : Int) + (m5 : Int)) = (um : Int) := by rw [IntKind.wrap_i64] <;> omega
    have m50 : ((m5 : Int) == 0) = false := by simp; omega
    have m50' : ¬ ((m5 : Int) = 0) := by omega
    have m50n : ¬ (m5 = 0) := by omega
    have hNq : N + q ≤ 8000000 := by omega
    have hlo : ∀ g, (Value.slice AN N cN).ownBlock = some g → w.heap.size ≤ g := fun g hg => (HI.out.2.2.2.2.2.2.1.lt g hg).1
    obtain ⟨h1, h2⟩ := blks_snoc (headE x) cs l
    have HJ := Lib.hid (⟨bz4, br4, own4, B4, hgl, hs5, hm5, hq, hum, hpe, hlo, h1, h2, hm8⟩ : _ ∧ _ ∧ _ ∧ _ ∧ _ ∧ _ ∧ _ ∧ _ ∧ _ ∧ _ ∧ _ ∧ _ ∧ _ ∧ _)
    have src5 := Source.es es5
    clear bz4 br4 B4 hgl hs5 hm5 hq hum hpe hlo h1 h2 es5 hb4 hun hm8
    go_wp2_with (at_builtin; refine hold ?_)
    refine unhold (wpList_append (.tmp 65) (.tmp 66) 23 Try.underlying23 hj hy0 hy1 hy2 rfl (by decide) own4 src5 (by unfold maxLen; omega) (by omega) HJ.out.2.2.2.1.size rfl rfl rfl rfl ?_)
    intro v6 w6 L6
    have hgrow := L6.2.1
    obtain ⟨A6, c6, rfl, hc6, own6, b6, n6⟩ := Longer.more HJ.out.2.2.2.1 HJ.out.2.2.2.1.size HJ.out.2.2.2.2.2.2.2.2.2.2.1 L6
    have zv : BoxC w6 z x (.slice AN N cN) (u : Int) := (hgrow.block z HJ.out.1.lt (boxC_not_row HJ.out.1 own4)).trans HJ.out.1
    have zb : BoxC w6 r 0 (.slice none 0 0) 0 := (hgrow.block r HJ.out.2.1.lt (boxC_not_row HJ.out.2.1 own4)).trans HJ.out.2.1
    obtain ⟨x1, hx1⟩ : ∃ y, y = w6.setCell ⟨z, 1, none⟩ (.slice A6 (N + q) c6) := ⟨_, rfl⟩
    have zv1 : BoxC x1 z x (.slice A6 (N + q) c6) (u : Int) := by rw [hx1]; exact zv.s1 _
    obtain ⟨x2, hx2⟩ : ∃ y, y = x1.setCell ⟨z, 2, none⟩ (.int .i64 (um : Int)) := ⟨_, rfl⟩
    have zv2 : BoxC x2 z x (.slice A6 (N + q) c6) (um : Int) := by rw [hx2]; exact zv1.s2 _
    have own7 : x2.ownsRow w.heap.size 45 3 (.slice A6 (N + q) c6) (N + q) ((cs ++ [l]).flatten.flatMap EnP.cs) := by
      have e1 : (cs ++ [l]).flatten.flatMap EnP.cs = cs.flatten.flatMap EnP.cs ++ l.flatMap EnP.cs := by simp
      rw [e1]
      have r1 := own_setC zv own6 (i := 1) (.slice A6 (N + q) c6)
      rw [← hx1] at r1
      have r2 := own_setC zv1 r1 (i := 2) (.int .i64 (um : Int))
      rwa [← hx2] at r2
    have hzr := Hz.out
    have zb2 : BoxC x2 r 0 (.slice none 0 0) 0 := by rw [hx2, hx1]; exact BoxC.other_i (BoxC.other_i zb (by omega) _) (by omega) _
    have B7 : Below w.heap.size w x2 := by rw [hx2, hx1]; exact (b6.setCell (p := ⟨z, 1, none⟩) (by show w.heap.size ≤ z; omega) _).setCell (p := ⟨z, 2, none⟩) (by show w.heap.size ≤ z; omega) _
    obtain ⟨a0, a1, a2⟩ := zv.cells
    have af1 := zv.frozen 1
    obtain ⟨e0, e1, e2⟩ := zv1.cells
    have ef2 := zv1.frozen 2
    obtain ⟨k0, k1, k2⟩ := zv2.cells
    have HX := Lib.hid (⟨hx1, hx2, zv2, own7, zb2, B7⟩ : _ ∧ _ ∧ _ ∧ _ ∧ _ ∧ _)
    have HK := Lib.hid k2
    rw [hx1] at e0 e1 e2 ef2
    clear L6 hgrow own6 b6 n6 zv zb zv1 zv2 own7 zb2 B7 hx1 hx2 k0 k1 k2 own4 src5 d0 d1 d2 hzr
    go_wp2_with fail
    rw [← HX.out.1, ← HX.out.2.1]
    go_roundw
    case rel =>
      obtain ⟨-, -, -, -, hgl, hs5, hm5, hq, hum, hpe, -, h1, h2, -⟩ := HJ.out
      refine ⟨cs ++ [l], s5, um, N + q, c6, x5, y5, A6, rfl, HI.out.1.append (fun c hc => by obtain rfl := List.mem_singleton.1 hc; exact hgl), ?_, ?_, ?_, by rw [h2]; exact hpe, HX.out.2.2.1, HX.out.2.2.2.1, HX.out.2.2.2.2.1, HX.out.2.2.2.2.2⟩
      · rw [h1, ← List.append_assoc, List.append_assoc _ _ s5, ← hs5]; exact HI.out.2.1
      · rw [h1, ← List.append_assoc, List.length_append, HI.out.2.2.1, ← hm5, hum]
      · simp [HI.out.2.2.2.1, hq]
    case measure =>
      have hm8 := HJ.out.2.2.2.2.2.2.2.2.2.2.2.2.2
      have hum := HJ.out.2.2.2.2.2.2.2.2.1
      obtain ⟨-, -, q2⟩ := HI.out.2.2.2.2.2.1.cells
      rw [HK.out, q2]
      simp [intOf]
      omega
  · have m50 : True := trivial
    obtain ⟨g0, g1, g2⟩ := br4.cells
    have f0 := br4.frozen 0
    have f1 := br4.frozen 1
    have f2 := br4.frozen 2
    have HJ := Lib.hid (⟨bz4, br4, own4, B4, hno⟩ : _ ∧ _ ∧ _ ∧ _ ∧ _)
    clear bz4 br4 own4 B4 hno hb4 m50 hun
    go_wp2_with fail
    obtain ⟨bz4, br4, own4, B4, hno⟩ := HJ.out
    have bf := ((br4.s0 x).s1 (.slice AN N cN)).s2 (u : Int)
    clear d0 d1 d2 g0 g1 g2 f0 f1 f2
    obtain ⟨k0, k1, k2⟩ := bf.cells
    have hB3 := ((B4.setCell (p := ⟨r, 0, none⟩) hwr (.int .i64 x)).setCell (p := ⟨r, 1, none⟩) hwr (.slice AN N cN)).setCell (p := ⟨r, 2, none⟩) hwr (.int .i64 (u : Int))
    have es4 := es_apart (Row.of_own (by decide) EnP.len own4) br4 (set3_other w4 r (.int .i64 x) (.slice AN N cN) (.int .i64 (u : Int)))
    have hNc : N ≤ cN := by obtain ⟨_, _, e, hc⟩ := own_slice own4; cases e; exact hc
    refine bodyPost_ret (v := .tuple #[.agg #[.int .i64 x, .slice AN N cN, .int .i64 (u : Int)], .complex .f64 xe ye, .int .i64 0]) (by simp [results, Try.results36, go_sem, k0, k1, k2]) rfl ⟨.inl ⟨x, cs, T', AN, cN, N, u, xe, ye, ⟨H2.out.2.2.2.2.2.2.2.1.1, blksL (headE x) cs ++ T', by rw [HI.out.2.1, List.append_assoc], HI.out.1, rfl, hno⟩, rfl, HI.out.2.2.2.1, HI.out.2.2.1, hNc, ?_, HI.out.2.2.2.2.1⟩, hB3⟩
    exact es4.on (Below.refl _ _) (by simp)

end Go.Proofs.Ytlojkbmoaifkaaa
