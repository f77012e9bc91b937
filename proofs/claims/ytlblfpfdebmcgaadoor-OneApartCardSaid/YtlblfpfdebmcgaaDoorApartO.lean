/-
  OneApart: it returns true.
-/
import Derived.Test.YtlblfpfdebmcgaaDoorWakesO
namespace Go.Proofs.YtlblfpfdebmcgaaDoor
open Go.RowKit
set_option linter.unusedVariables false
set_option linter.unusedSimpArgs false

theorem all_one {x : EnP} : AllR [x] ↔ RightP x := ⟨fun h => h x (by simp), fun h y hy => by obtain rfl := List.mem_singleton.1 hy; exact h⟩
theorem recs_one (x : EnP) : recsL [x] = recL x := by simp [recsL]

set_option maxRecDepth 100000 in
set_option maxHeartbeats 16000000 in
theorem apart_law (x y : EnP) (first other : Int) (w : World) (hT : Cr.Tab w) :
    Calls Tryd.prog 7 #[x.v, y.v, .int .i64 first, .int .i64 other] w fun e w' => e = .returned (.bool true) ∧ Below w.heap.size w w' := by
  obtain ⟨L1, e1, hP1⟩ : ∃ L e, putP [x] = (L, e) := ⟨_, _, rfl⟩
  obtain ⟨L2, e2, hP2⟩ : ∃ L e, putP [y] = (L, e) := ⟨_, _, rfl⟩
  obtain ⟨L3, e3, hP3⟩ : ∃ L e, headP first = (L, e) := ⟨_, _, rfl⟩
  obtain ⟨L4, e4, hP4⟩ : ∃ L e, headP other = (L, e) := ⟨_, _, rfl⟩
  obtain ⟨q1, hq1⟩ : ∃ q, L1.length = q := ⟨_, rfl⟩
  obtain ⟨q2, hq2⟩ : ∃ q, L2.length = q := ⟨_, rfl⟩
  obtain ⟨q3, hq3⟩ : ∃ q, L3.length = q := ⟨_, rfl⟩
  obtain ⟨q4, hq4⟩ : ∃ q, L4.length = q := ⟨_, rfl⟩
  have hL1 : Byt L1 := by have h := putP_byt [x]; rw [hP1] at h; exact h
  have hL2 : Byt L2 := by have h := putP_byt [y]; rw [hP2] at h; exact h
  have hL3 : Byt L3 := by have h := headP_byt first; rw [hP3] at h; exact h
  have hL4 : Byt L4 := by have h := headP_byt other; rw [hP4] at h; exact h
  have px : (RightP x → L1 = recL x ∧ e1 = 0 ∧ q1 = 15) ∧ (¬ RightP x → e1 = 2) := by
    constructor
    · intro h
      rw [putP_yes (all_one.2 h), recs_one] at hP1
      injection hP1 with h1 h2
      exact ⟨h1.symm, h2.symm, by rw [← hq1, ← h1, recL_length]⟩
    · intro h
      rw [putP_no (fun h' => h (all_one.1 h'))] at hP1
      injection hP1 with h1 h2
      exact h2.symm
  have py : (RightP y → L2 = recL y ∧ e2 = 0) ∧ (¬ RightP y → e2 = 2) := by
    constructor
    · intro h
      rw [putP_yes (all_one.2 h), recs_one] at hP2
      injection hP2 with h1 h2
      exact ⟨h1.symm, h2.symm⟩
    · intro h
      rw [putP_no (fun h' => h (all_one.1 h'))] at hP2
      injection hP2 with h1 h2
      exact h2.symm
  have pf : (IdxP first → L3 = headL first ∧ e3 = 0) ∧ (¬ IdxP first → e3 = 2) := by
    constructor
    · intro h
      rw [headP_yes h] at hP3
      injection hP3 with h1 h2
      exact ⟨h1.symm, h2.symm⟩
    · intro h
      rw [headP_no h] at hP3
      injection hP3 with h1 h2
      exact h2.symm
  have po : (IdxP other → L4 = headL other ∧ e4 = 0) ∧ (¬ IdxP other → e4 = 2) := by
    constructor
    · intro h
      rw [headP_yes h] at hP4
      injection hP4 with h1 h2
      exact ⟨h1.symm, h2.symm⟩
    · intro h
      rw [headP_no h] at hP4
      injection hP4 with h1 h2
      exact h2.symm
  have HP := Lib.hid (⟨hP1, hP2, hP3, hP4, hq1, hq2, hq3, hq4⟩ : _ ∧ _ ∧ _ ∧ _ ∧ _ ∧ _ ∧ _ ∧ _)
  have HY := Lib.hid (⟨hL1, hL2, hL3, hL4⟩ : _ ∧ _ ∧ _ ∧ _)
  have HQ := Lib.hid (⟨px, py, pf, po⟩ : _ ∧ _ ∧ _ ∧ _)
  have HT := Lib.hid hT
  clear hP1 hP2 hP3 hP4 hq1 hq2 hq3 hq4 hL1 hL2 hL3 hL4 px py pf po hT
  obtain ⟨zx, hzx⟩ : ∃ z, z = w.heap.size := ⟨_, rfl⟩
  obtain ⟨wa, hwa⟩ : ∃ wa, wa = w.alloc (.cells #[.int .i64 x.tm, .int .i64 x.kd, .int .i64 x.vl] 40) := ⟨_, rfl⟩
  obtain ⟨w0, hw0⟩ : ∃ w0, w0 = wa.alloc (.cells #[.int .i64 y.tm, .int .i64 y.kd, .int .i64 y.vl] 40) := ⟨_, rfl⟩
  have hsa : wa.heap.size = zx + 1 := by rw [hwa, hzx]; simp
  have hB0 : Below w.heap.size w w0 := by rw [hw0, hwa]; exact below_al (below_al (below_d0 w) _) _
  have bx0 : BoxE w0 zx x := BoxE.below (W := wa) (by rw [hwa, hzx]; exact BoxE.new w x) (by rw [hw0]; exact (Below.refl _ _).alloc (Nat.le_refl _) _)
  have by0 : BoxE w0 (zx + 1) y := by rw [hw0, ← hsa]; exact BoxE.new wa y
  obtain ⟨k0, k1, k2⟩ := bx0.cells
  have Hw := Lib.hid (⟨hzx, hwa, hw0, hB0, bx0, by0⟩ : _ ∧ _ ∧ _ ∧ _ ∧ _ ∧ _)
  rw [hw0, hwa, hzx] at k0 k1 k2
  clear hzx hwa hw0 hsa hB0 bx0 by0
  unfold EnP.v
  go_enter Tryd.func7, Tryd.ntmps7
  go_wp2_with fail
  rw [← Hw.out.2.1, ← Hw.out.2.2.1, ← Hw.out.1]
  clear k0 k1 k2
  obtain ⟨w1, hw1⟩ : ∃ w1, w1 = w0.alloc (.cells #[.int .i64 x.tm, .int .i64 x.kd, .int .i64 x.vl] 40) := ⟨_, rfl⟩
  have es1 : Es w1 w1.heap.size (some ⟨zx + 1 + 1, 0, none⟩) 1 [x] := by rw [hw1]; exact Es.made w0 x (by rw [Hw.out.2.2.1, Hw.out.2.1, Hw.out.1]; simp)
  have b1 : Below w0.heap.size w0 w1 := by rw [hw1]; exact (Below.refl _ _).alloc (Nat.le_refl _) _
  have B1 := Hw.out.2.2.2.1.trans (b1.mono Hw.out.2.2.2.1.size)
  have bx1 := Hw.out.2.2.2.2.1.below b1
  have by1 := Hw.out.2.2.2.2.2.below b1
  rw [← hw1]
  clear hw1 b1
  refine (put_any _ 1 1 [x] w1 (HT.out.on B1) es1 (by omega)).mono ?_
  intro e w2 h2
  obtain ⟨A1, c1, rfl, -, r1, -, b2⟩ := h2.out HP.out.1 HP.out.2.2.2.2.1
  have B2 := B1.trans (b2.mono B1.size)
  have bx2 := bx1.below b2
  have by2 := by1.below b2
  obtain ⟨k0, k1, k2⟩ := by2.cells
  clear h2 b2 bx1 by1 es1 B1
  go_wp2_with fail
  clear k0 k1 k2
  obtain ⟨w3, hw3⟩ : ∃ w3, w3 = w2.alloc (.cells #[.int .i64 y.tm, .int .i64 y.kd, .int .i64 y.vl] 40) := ⟨_, rfl⟩
  have es3 : Es w3 w3.heap.size (some ⟨w2.heap.size, 0, none⟩) 1 [y] := by rw [hw3]; exact Es.made w2 y rfl
  have b3 : Below w2.heap.size w2 w3 := by rw [hw3]; exact (Below.refl _ _).alloc (Nat.le_refl _) _
  obtain ⟨g3, hg3⟩ : ∃ g, g = w2.heap.size := ⟨_, rfl⟩
  have B3 := B2.trans (b3.mono B2.size)
  have bx3 := bx2.below b3
  have by3 := by2.below b3
  have r1 := r1.on b3 b3.size
  rw [← hw3, ← hg3]
  rw [← hg3] at es3
  clear hw3 b3 hg3 bx2 by2 B2
  refine (put_any _ 1 1 [y] w3 (HT.out.on B3) es3 (by omega)).mono ?_
  intro e w4 h4
  obtain ⟨A2, c2, rfl, -, r2, -, b4⟩ := h4.out HP.out.2.1 HP.out.2.2.2.2.2.1
  have B4 := B3.trans (b4.mono B3.size)
  have bx4 := bx3.below b4
  have by4 := by3.below b4
  have r1 := r1.on b4 b4.size
  clear h4 b4 bx3 by3 es3 B3
  go_wp2_with fail
  refine (head_any first w4).mono ?_
  intro e w5 h5
  obtain ⟨A3, c3, rfl, -, r3, -, b5⟩ := h5.out HP.out.2.2.1 HP.out.2.2.2.2.2.2.1
  have B5 := B4.trans (b5.mono B4.size)
  have bx5 := bx4.below b5
  have by5 := by4.below b5
  have r1 := r1.on b5 b5.size
  have r2 := r2.on b5 b5.size
  clear h5 b5 bx4 by4 B4
  go_wp2_with fail
  refine (head_any other w5).mono ?_
  intro e w6 h6
  obtain ⟨A4, c4, rfl, -, r4, -, b6⟩ := h6.out HP.out.2.2.2.1 HP.out.2.2.2.2.2.2.2
  have B6 := B5.trans (b6.mono B5.size)
  have bx6 := bx5.below b6
  have by6 := by5.below b6
  have r1 := r1.on b6 b6.size
  have r2 := r2.on b6 b6.size
  have r3 := r3.on b6 b6.size
  clear h6 b6 bx5 by5 B5
  have HR := Lib.hid (⟨r1, r2, r3, r4, B6⟩ : _ ∧ _ ∧ _ ∧ _ ∧ _)
  have X0 := Lib.hid (show ∀ W, Below w6.heap.size w6 W → BoxE W zx x ∧ BoxE W (zx + 1) y from fun W hW => ⟨bx6.below hW, by6.below hW⟩)
  clear r1 r2 r3 r4 B6 bx6 by6
  go_wp2_with fail
  by_cases hx : RightP x
  · have q10 : (e1 == 0) = true := by rw [(HQ.out.1.1 hx).2.1]; rfl
    have q11 : (e1 != 0) = false := by rw [(HQ.out.1.1 hx).2.1]; rfl
    have q15 : ((q1 : Int) == 15) = true := by rw [(HQ.out.1.1 hx).2.2]; rfl
    have rb1 := rightB_iff.2 hx
    have u1 : (true == true) = true := rfl
    by_cases hy : RightP y
    · have q20 : (e2 == 0) = true := by rw [(HQ.out.2.1.1 hy).2]; rfl
      have rb2 := rightB_iff.2 hy
      by_cases hxy : x = y
      · have hq : ∀ w, (Op.equalIn 10000 40 (.agg #[.int .i64 x.tm, .int .i64 x.kd, .int .i64 x.vl]) (.agg #[.int .i64 y.tm, .int .i64 y.kd, .int .i64 y.vl])).run Tryd.prog w = .ok true w := fun w => by rw [equal_en, decide_eq_true hxy]
        have Hs := Lib.hid (show Cr.eqB L1 L2 = true from Cr.eqB_true (by rw [(HQ.out.1.1 hx).1, (HQ.out.2.1.1 hy).1, hxy]))
        clear hx hy hxy
        refine wp_region_held_drew (S := (fun W => Below w6.heap.size w6 W)) (by kernel_rfl) (below_dr (below_d0 _)) (fun hHeld => ?_)
        refine take_at (i := 0) (d := 39) (oi := ?o1) (v := ?v1) ?hi1 ?hd1 (by kernel_rfl) (by kernel_rfl) (by kernel_rfl) ?hw1 ?hy1 ?hq1 (by assumption) ?r1
        case hi1 => (simp only [List.getElem?_toArray, List.getElem?_cons_zero]; rfl)
        case hd1 => rfl
        case hw1 => rfl
        case hy1 => ((intro w hSw; (try dsimp only at hSw); go_simp) <;> (with_reducible rfl))
        case hq1 => exact fun _ _ _ h => h
        simp only [List.set_cons_succ, List.set_cons_zero]
        refine take_at (i := 1) (d := 40) (oi := ?o2) (v := ?v2) ?hi2 ?hd2 (by kernel_rfl) (by kernel_rfl) (by kernel_rfl) ?hw2 ?hy2 ?hq2 (by assumption) ?r2
        case hi2 => (simp only [List.getElem?_toArray, List.getElem?_cons_succ, List.getElem?_cons_zero]; rfl)
        case hd2 => rfl
        case hw2 => rfl
        case hy2 => ((intro w hSw; (try dsimp only at hSw); go_simp) <;> (with_reducible rfl))
        case hq2 => exact fun _ _ _ h => h
        simp only [List.set_cons_succ, List.set_cons_zero]
        refine take_at (i := 2) (d := 41) (oi := ?o3) (v := ?v3) ?hi3 ?hd3 (by kernel_rfl) (by kernel_rfl) (by kernel_rfl) ?hw3 ?hy3 ?hq3 (by assumption) ?r3
        case hi3 => (simp only [List.getElem?_toArray, List.getElem?_cons_succ, List.getElem?_cons_zero]; rfl)
        case hd3 => rfl
        case hw3 => rfl
        case hy3 => ((intro w hSw; (try dsimp only at hSw); go_simp) <;> (with_reducible rfl))
        case hq3 => exact fun _ _ _ h => h
        simp only [List.set_cons_succ, List.set_cons_zero]
        refine take_at (i := 3) (d := 42) (oi := ?o4) (v := ?v4) ?hi4 ?hd4 (by kernel_rfl) (by kernel_rfl) (by kernel_rfl) ?hw4 ?hy4 ?hq4 (by assumption) ?r4
        case hi4 => (simp only [List.getElem?_toArray, List.getElem?_cons_succ, List.getElem?_cons_zero]; rfl)
        case hd4 => rfl
        case hw4 => rfl
        case hy4 => ((intro w hSw; (try dsimp only at hSw); go_simp) <;> (with_reducible rfl))
        case hq4 => exact fun _ _ _ h => h
        simp only [List.set_cons_succ, List.set_cons_zero]
        refine take_at (i := 4) (d := 43) (oi := ?o5) (v := ?v5) ?hi5 ?hd5 (by kernel_rfl) (by kernel_rfl) (by kernel_rfl) ?hw5 ?hy5 ?hq5 (by assumption) ?r5
        case hi5 => (simp only [List.getElem?_toArray, List.getElem?_cons_succ, List.getElem?_cons_zero]; rfl)
        case hd5 => rfl
        case hw5 => rfl
        case hy5 => ((intro w hSw; (try dsimp only at hSw); go_simp) <;> (with_reducible rfl))
        case hq5 => exact fun _ _ _ h => h
        simp only [List.set_cons_succ, List.set_cons_zero]
        refine take_at (i := 5) (d := 44) (oi := ?o6) (v := ?v6) ?hi6 ?hd6 (by kernel_rfl) (by kernel_rfl) (by kernel_rfl) ?hw6 ?hy6 ?hq6 (by assumption) ?r6
        case hi6 => (simp only [List.getElem?_toArray, List.getElem?_cons_succ, List.getElem?_cons_zero]; rfl)
        case hd6 => rfl
        case hw6 => rfl
        case hy6 => ((intro w hSw; (try dsimp only at hSw); go_simp) <;> (with_reducible rfl))
        case hq6 => exact fun _ _ _ h => h
        simp only [List.set_cons_succ, List.set_cons_zero]
        refine take_at (i := 6) (d := 45) (oi := ?o7) (v := ?v7) ?hi7 ?hd7 (by kernel_rfl) (by kernel_rfl) (by kernel_rfl) ?hw7 ?hy7 ?hq7 (by assumption) ?r7
        case hi7 => (simp only [List.getElem?_toArray, List.getElem?_cons_succ, List.getElem?_cons_zero]; rfl)
        case hd7 => rfl
        case hw7 => rfl
        case hy7 => ((intro w hSw; (try dsimp only at hSw); go_simp) <;> (with_reducible rfl))
        case hq7 => exact fun _ _ _ h => h
        simp only [List.set_cons_succ, List.set_cons_zero]
        refine take_at (i := 7) (d := 46) (oi := ?o8) (v := ?v8) ?hi8 ?hd8 (by kernel_rfl) (by kernel_rfl) (by kernel_rfl) ?hw8 ?hy8 ?hq8 (by assumption) ?r8
        case hi8 => (simp only [List.getElem?_toArray, List.getElem?_cons_succ, List.getElem?_cons_zero]; rfl)
        case hd8 => rfl
        case hw8 => rfl
        case hy8 => ((intro w hSw; (try dsimp only at hSw); go_simp) <;> (with_reducible rfl))
        case hq8 => exact fun _ _ _ h => h
        simp only [List.set_cons_succ, List.set_cons_zero]
        refine take_at (i := 8) (d := 47) (oi := ?o9) (v := ?v9) ?hi9 ?hd9 (by kernel_rfl) (by kernel_rfl) (by kernel_rfl) ?hw9 ?hy9 ?hq9 (by assumption) ?r9
        case hi9 => (simp only [List.getElem?_toArray, List.getElem?_cons_succ, List.getElem?_cons_zero]; rfl)
        case hd9 => rfl
        case hw9 => rfl
        case hy9 => ((intro w hSw; (try dsimp only at hSw); go_simp) <;> (with_reducible rfl))
        case hq9 => exact fun _ _ _ h => h
        simp only [List.set_cons_succ, List.set_cons_zero]
        refine take_at (i := 10) (d := 49) (oi := ?o10) (v := ?v10) ?hi10 ?hd10 (by kernel_rfl) (by kernel_rfl) (by kernel_rfl) ?hw10 ?hy10 ?hq10 (by assumption) ?r10
        case hi10 => (simp only [List.getElem?_toArray, List.getElem?_cons_succ, List.getElem?_cons_zero]; rfl)
        case hd10 => rfl
        case hw10 => rfl
        case hy10 => ((intro w hSw; (try dsimp only at hSw); obtain ⟨bx, by_⟩ := X0.out _ hSw; obtain ⟨k0, k1, k2⟩ := bx.cells; obtain ⟨m0, m1, m2⟩ := by_.cells; go_simp) <;> (with_reducible rfl))
        case hq10 => exact fun _ _ _ h => h
        simp only [List.set_cons_succ, List.set_cons_zero]
        refine take_at (i := 11) (d := 50) (oi := ?o11) (v := ?v11) ?hi11 ?hd11 (by kernel_rfl) (by kernel_rfl) (by kernel_rfl) ?hw11 ?hy11 ?hq11 (by assumption) ?r11
        case hi11 => (simp only [List.getElem?_toArray, List.getElem?_cons_succ, List.getElem?_cons_zero]; rfl)
        case hd11 => rfl
        case hw11 => rfl
        case hy11 => ((intro w hSw; (try dsimp only at hSw); obtain ⟨bx, by_⟩ := X0.out _ hSw; obtain ⟨k0, k1, k2⟩ := bx.cells; obtain ⟨m0, m1, m2⟩ := by_.cells; go_simp) <;> (with_reducible rfl))
        case hq11 => exact fun _ _ _ h => h
        simp only [List.set_cons_succ, List.set_cons_zero]
        refine take_at (i := 12) (d := 51) (oi := ?o12) (v := ?v12) ?hi12 ?hd12 (by kernel_rfl) (by kernel_rfl) (by kernel_rfl) ?hw12 ?hy12 ?hq12 (by assumption) ?r12
        case hi12 => (simp only [List.getElem?_toArray, List.getElem?_cons_succ, List.getElem?_cons_zero]; rfl)
        case hd12 => rfl
        case hw12 => rfl
        case hy12 => ((intro w hSw; (try dsimp only at hSw); go_simp) <;> (with_reducible rfl))
        case hq12 => exact fun _ _ _ h => h
        simp only [List.set_cons_succ, List.set_cons_zero]
        refine call_at (i := 9) (d := 48) (oi := ?o13) (f := ?f13) (args := ?a13) ?hi13 ?hd13 (by kernel_rfl) ?hw13 ?he13 ?hc13
        case hi13 => (simp only [List.getElem?_toArray, List.getElem?_cons_succ, List.getElem?_cons_zero]; rfl)
        case hd13 => rfl
        case hw13 => rfl
        case he13 => (go_simp; constructor <;> with_reducible rfl)
        have sm := same_any A1 A2 q1 q2 c1 c2 L1 L2 _ (HR.out.1.on hHeld hHeld.size) (HR.out.2.1.on hHeld hHeld.size) HY.out.1 HY.out.2.1
        rw [Hs.out] at sm
        refine Calls.mono sm ?_
        rintro r wv ⟨rfl, rfl⟩
        clear sm
        refine ⟨_, rfl, hHeld, fun hHeld => ?_⟩
        simp only [List.set_cons_succ, List.set_cons_zero]
        refine take_at (i := 13) (d := 52) (oi := ?o14) (v := ?v14) ?hi14 ?hd14 (by kernel_rfl) (by kernel_rfl) (by kernel_rfl) ?hw14 ?hy14 ?hq14 (by assumption) ?r14
        case hi14 => (simp only [List.getElem?_toArray, List.getElem?_cons_succ, List.getElem?_cons_zero]; rfl)
        case hd14 => rfl
        case hw14 => rfl
        case hy14 => ((intro w hSw; (try dsimp only at hSw); go_simp) <;> (with_reducible rfl))
        case hq14 => exact fun _ _ _ h => h
        simp only [List.set_cons_succ, List.set_cons_zero]
        refine take_at (i := 14) (d := 53) (oi := ?o15) (v := ?v15) ?hi15 ?hd15 (by kernel_rfl) (by kernel_rfl) (by kernel_rfl) ?hw15 ?hy15 ?hq15 (by assumption) ?r15
        case hi15 => (simp only [List.getElem?_toArray, List.getElem?_cons_succ, List.getElem?_cons_zero]; rfl)
        case hd15 => rfl
        case hw15 => rfl
        case hy15 => ((intro w hSw; (try dsimp only at hSw); go_simp) <;> (with_reducible rfl))
        case hq15 => exact fun _ _ _ h => h
        simp only [List.set_cons_succ, List.set_cons_zero]
        refine take_at (i := 15) (d := 54) (oi := ?o16) (v := ?v16) ?hi16 ?hd16 (by kernel_rfl) (by kernel_rfl) (by kernel_rfl) ?hw16 ?hy16 ?hq16 (by assumption) ?r16
        case hi16 => (simp only [List.getElem?_toArray, List.getElem?_cons_succ, List.getElem?_cons_zero]; rfl)
        case hd16 => rfl
        case hw16 => rfl
        case hy16 => ((intro w hSw; (try dsimp only at hSw); go_simp) <;> (with_reducible rfl))
        case hq16 => exact fun _ _ _ h => h
        simp only [List.set_cons_succ, List.set_cons_zero]
        refine take_at (i := 16) (d := 55) (oi := ?o17) (v := ?v17) ?hi17 ?hd17 (by kernel_rfl) (by kernel_rfl) (by kernel_rfl) ?hw17 ?hy17 ?hq17 (by assumption) ?r17
        case hi17 => (simp only [List.getElem?_toArray, List.getElem?_cons_succ, List.getElem?_cons_zero]; rfl)
        case hd17 => rfl
        case hw17 => rfl
        case hy17 => ((intro w hSw; (try dsimp only at hSw); go_simp) <;> (with_reducible rfl))
        case hq17 => exact fun _ _ _ h => h
        simp only [List.set_cons_succ, List.set_cons_zero]
        refine take_at (i := 17) (d := 56) (oi := ?o18) (v := ?v18) ?hi18 ?hd18 (by kernel_rfl) (by kernel_rfl) (by kernel_rfl) ?hw18 ?hy18 ?hq18 (by assumption) ?r18
        case hi18 => (simp only [List.getElem?_toArray, List.getElem?_cons_succ, List.getElem?_cons_zero]; rfl)
        case hd18 => rfl
        case hw18 => rfl
        case hy18 => ((intro w hSw; (try dsimp only at hSw); go_simp) <;> (with_reducible rfl))
        case hq18 => exact fun _ _ _ h => h
        simp only [List.set_cons_succ, List.set_cons_zero]
        refine take_at (i := 18) (d := 57) (oi := ?o19) (v := ?v19) ?hi19 ?hd19 (by kernel_rfl) (by kernel_rfl) (by kernel_rfl) ?hw19 ?hy19 ?hq19 (by assumption) ?r19
        case hi19 => (simp only [List.getElem?_toArray, List.getElem?_cons_succ, List.getElem?_cons_zero]; rfl)
        case hd19 => rfl
        case hw19 => rfl
        case hy19 => ((intro w hSw; (try dsimp only at hSw); obtain ⟨bx, by_⟩ := X0.out _ hSw; obtain ⟨k0, k1, k2⟩ := bx.cells; obtain ⟨m0, m1, m2⟩ := by_.cells; go_simp) <;> (with_reducible rfl))
        case hq19 => exact fun _ _ _ h => h
        simp only [List.set_cons_succ, List.set_cons_zero]
        refine call_at (i := 19) (d := 58) (oi := ?o20) (f := ?f20) (args := ?a20) ?hi20 ?hd20 (by kernel_rfl) ?hw20 ?he20 ?hc20
        case hi20 => (simp only [List.getElem?_toArray, List.getElem?_cons_succ, List.getElem?_cons_zero]; rfl)
        case hd20 => rfl
        case hw20 => rfl
        case he20 => (go_simp; constructor <;> with_reducible rfl)
        refine Calls.mono (rright_any x _) ?_
        rintro r wv ⟨rfl, hb1⟩
        rw [rb1]
        have kb : Below w6.heap.size w6 wv := hHeld.trans (hb1.mono hHeld.size)
        refine ⟨_, rfl, kb, fun hHeld => ?_⟩
        simp only [List.set_cons_succ, List.set_cons_zero]
        refine take_at (i := 20) (d := 59) (oi := ?o21) (v := ?v21) ?hi21 ?hd21 (by kernel_rfl) (by kernel_rfl) (by kernel_rfl) ?hw21 ?hy21 ?hq21 (by assumption) ?r21
        case hi21 => (simp only [List.getElem?_toArray, List.getElem?_cons_succ, List.getElem?_cons_zero]; rfl)
        case hd21 => rfl
        case hw21 => rfl
        case hy21 => ((intro w hSw; (try dsimp only at hSw); go_simp) <;> (with_reducible rfl))
        case hq21 => exact fun _ _ _ h => h
        simp only [List.set_cons_succ, List.set_cons_zero]
        refine take_at (i := 21) (d := 60) (oi := ?o22) (v := ?v22) ?hi22 ?hd22 (by kernel_rfl) (by kernel_rfl) (by kernel_rfl) ?hw22 ?hy22 ?hq22 (by assumption) ?r22
        case hi22 => (simp only [List.getElem?_toArray, List.getElem?_cons_succ, List.getElem?_cons_zero]; rfl)
        case hd22 => rfl
        case hw22 => rfl
        case hy22 => ((intro w hSw; (try dsimp only at hSw); go_simp) <;> (with_reducible rfl))
        case hq22 => exact fun _ _ _ h => h
        simp only [List.set_cons_succ, List.set_cons_zero]
        refine take_at (i := 22) (d := 61) (oi := ?o23) (v := ?v23) ?hi23 ?hd23 (by kernel_rfl) (by kernel_rfl) (by kernel_rfl) ?hw23 ?hy23 ?hq23 (by assumption) ?r23
        case hi23 => (simp only [List.getElem?_toArray, List.getElem?_cons_succ, List.getElem?_cons_zero]; rfl)
        case hd23 => rfl
        case hw23 => rfl
        case hy23 => ((intro w hSw; (try dsimp only at hSw); go_simp) <;> (with_reducible rfl))
        case hq23 => exact fun _ _ _ h => h
        simp only [List.set_cons_succ, List.set_cons_zero]
        refine take_at (i := 23) (d := 62) (oi := ?o24) (v := ?v24) ?hi24 ?hd24 (by kernel_rfl) (by kernel_rfl) (by kernel_rfl) ?hw24 ?hy24 ?hq24 (by assumption) ?r24
        case hi24 => (simp only [List.getElem?_toArray, List.getElem?_cons_succ, List.getElem?_cons_zero]; rfl)
        case hd24 => rfl
        case hw24 => rfl
        case hy24 => ((intro w hSw; (try dsimp only at hSw); go_simp) <;> (with_reducible rfl))
        case hq24 => exact fun _ _ _ h => h
        simp only [List.set_cons_succ, List.set_cons_zero]
        refine take_at (i := 24) (d := 63) (oi := ?o25) (v := ?v25) ?hi25 ?hd25 (by kernel_rfl) (by kernel_rfl) (by kernel_rfl) ?hw25 ?hy25 ?hq25 (by assumption) ?r25
        case hi25 => (simp only [List.getElem?_toArray, List.getElem?_cons_succ, List.getElem?_cons_zero]; rfl)
        case hd25 => rfl
        case hw25 => rfl
        case hy25 => ((intro w hSw; (try dsimp only at hSw); go_simp) <;> (with_reducible rfl))
        case hq25 => exact fun _ _ _ h => h
        simp only [List.set_cons_succ, List.set_cons_zero]
        refine take_at (i := 25) (d := 64) (oi := ?o26) (v := ?v26) ?hi26 ?hd26 (by kernel_rfl) (by kernel_rfl) (by kernel_rfl) ?hw26 ?hy26 ?hq26 (by assumption) ?r26
        case hi26 => (simp only [List.getElem?_toArray, List.getElem?_cons_succ, List.getElem?_cons_zero]; rfl)
        case hd26 => rfl
        case hw26 => rfl
        case hy26 => ((intro w hSw; (try dsimp only at hSw); obtain ⟨bx, by_⟩ := X0.out _ hSw; obtain ⟨k0, k1, k2⟩ := bx.cells; obtain ⟨m0, m1, m2⟩ := by_.cells; go_simp) <;> (with_reducible rfl))
        case hq26 => exact fun _ _ _ h => h
        simp only [List.set_cons_succ, List.set_cons_zero]
        refine call_at (i := 26) (d := 65) (oi := ?o27) (f := ?f27) (args := ?a27) ?hi27 ?hd27 (by kernel_rfl) ?hw27 ?he27 ?hc27
        case hi27 => (simp only [List.getElem?_toArray, List.getElem?_cons_succ, List.getElem?_cons_zero]; rfl)
        case hd27 => rfl
        case hw27 => rfl
        case he27 => (go_simp; constructor <;> with_reducible rfl)
        refine Calls.mono (rright_any y _) ?_
        rintro r wv ⟨rfl, hb1⟩
        rw [rb2]
        have kb : Below w6.heap.size w6 wv := hHeld.trans (hb1.mono hHeld.size)
        refine ⟨_, rfl, kb, fun hHeld => ?_⟩
        simp only [List.set_cons_succ, List.set_cons_zero]
        refine take_at (i := 27) (d := 66) (oi := ?o28) (v := ?v28) ?hi28 ?hd28 (by kernel_rfl) (by kernel_rfl) (by kernel_rfl) ?hw28 ?hy28 ?hq28 (by assumption) ?r28
        case hi28 => (simp only [List.getElem?_toArray, List.getElem?_cons_succ, List.getElem?_cons_zero]; rfl)
        case hd28 => rfl
        case hw28 => rfl
        case hy28 => ((intro w hSw; (try dsimp only at hSw); go_simp) <;> (with_reducible rfl))
        case hq28 => exact fun _ _ _ h => h
        simp only [List.set_cons_succ, List.set_cons_zero]
        refine take_at (i := 28) (d := 67) (oi := ?o29) (v := ?v29) ?hi29 ?hd29 (by kernel_rfl) (by kernel_rfl) (by kernel_rfl) ?hw29 ?hy29 ?hq29 (by assumption) ?r29
        case hi29 => (simp only [List.getElem?_toArray, List.getElem?_cons_succ, List.getElem?_cons_zero]; rfl)
        case hd29 => rfl
        case hw29 => rfl
        case hy29 => ((intro w hSw; (try dsimp only at hSw); go_simp) <;> (with_reducible rfl))
        case hq29 => exact fun _ _ _ h => h
        simp only [List.set_cons_succ, List.set_cons_zero]
        refine wpAnyH_done (by kernel_rfl) ?_ _
        by_cases hf : IdxP first
        · have q30 : (e3 == 0) = true := by rw [(HQ.out.2.2.1.1 hf).2]; rfl
          have f1 : (1 : Int) ≤ first := hf.1
          have f2 : first ≤ (1073741824 : Int) := hf.2
          by_cases ho : IdxP other
          · have q40 : (e4 == 0) = true := by rw [(HQ.out.2.2.2.1 ho).2]; rfl
            by_cases heq : first = other
            · have q5 : (first == other) = true := by simpa using heq
              have Hs := Lib.hid (show Cr.eqB L3 L4 = true from Cr.eqB_true (by rw [(HQ.out.2.2.1.1 hf).1, (HQ.out.2.2.2.1 ho).1, heq]))
              clear hf ho heq
              go_wp2_with fail
              have sm := same_any A3 A4 q3 q4 c3 c4 L3 L4 _ (HR.out.2.2.1.on hHeld hHeld.size) (HR.out.2.2.2.1.on hHeld hHeld.size) HY.out.2.2.1 HY.out.2.2.2
              rw [Hs.out] at sm
              refine Calls.mono sm ?_
              rintro e w9 ⟨rfl, rfl⟩
              clear sm
              go_wp2_with fail
              refine Calls.mono (wakes_true _ (HT.out.on (HR.out.2.2.2.2.trans (hHeld.mono HR.out.2.2.2.2.size)))) ?_
              rintro e w9 ⟨rfl, b9⟩
              go_wp2_with fail
              go_ret
              exact ⟨rfl, HR.out.2.2.2.2.trans ((hHeld.trans (b9.mono hHeld.size)).mono HR.out.2.2.2.2.size)⟩
            · have q5 : (first == other) = false := by simpa using heq
              have Hs := Lib.hid (show Cr.eqB L3 L4 = false from by
                cases h : Cr.eqB L3 L4
                · rfl
                · have h1 := Cr.eqB_iff.1 h
                  rw [(HQ.out.2.2.1.1 hf).1, (HQ.out.2.2.2.1 ho).1] at h1
                  exact absurd (headL_inj hf ho h1) heq)
              clear hf ho heq
              go_wp2_with fail
              have sm := same_any A3 A4 q3 q4 c3 c4 L3 L4 _ (HR.out.2.2.1.on hHeld hHeld.size) (HR.out.2.2.2.1.on hHeld hHeld.size) HY.out.2.2.1 HY.out.2.2.2
              rw [Hs.out] at sm
              refine Calls.mono sm ?_
              rintro e w9 ⟨rfl, rfl⟩
              clear sm
              go_wp2_with fail
              refine Calls.mono (wakes_true _ (HT.out.on (HR.out.2.2.2.2.trans (hHeld.mono HR.out.2.2.2.2.size)))) ?_
              rintro e w9 ⟨rfl, b9⟩
              go_wp2_with fail
              go_ret
              exact ⟨rfl, HR.out.2.2.2.2.trans ((hHeld.trans (b9.mono hHeld.size)).mono HR.out.2.2.2.2.size)⟩
          · have q40 : (e4 == 0) = false := by rw [HQ.out.2.2.2.2 ho]; rfl
            clear hf ho
            go_wp2_with fail
            refine Calls.mono (wakes_true _ (HT.out.on (HR.out.2.2.2.2.trans (hHeld.mono HR.out.2.2.2.2.size)))) ?_
            rintro e w9 ⟨rfl, b9⟩
            go_wp2_with fail
            go_ret
            exact ⟨rfl, HR.out.2.2.2.2.trans ((hHeld.trans (b9.mono hHeld.size)).mono HR.out.2.2.2.2.size)⟩
        · have q30 : (e3 == 0) = false := by rw [HQ.out.2.2.1.2 hf]; rfl
          by_cases f1 : (1 : Int) ≤ first
          · have f2 : (1073741824 : Int) < first := by unfold IdxP at hf; omega
            have f3 : ¬ first ≤ (1073741824 : Int) := by omega
            clear hf
            go_wp2_with fail
            refine Calls.mono (wakes_true _ (HT.out.on (HR.out.2.2.2.2.trans (hHeld.mono HR.out.2.2.2.2.size)))) ?_
            rintro e w9 ⟨rfl, b9⟩
            go_wp2_with fail
            go_ret
            exact ⟨rfl, HR.out.2.2.2.2.trans ((hHeld.trans (b9.mono hHeld.size)).mono HR.out.2.2.2.2.size)⟩
          · have f2 : first < (1 : Int) := by omega
            clear hf
            go_wp2_with fail
            refine Calls.mono (wakes_true _ (HT.out.on (HR.out.2.2.2.2.trans (hHeld.mono HR.out.2.2.2.2.size)))) ?_
            rintro e w9 ⟨rfl, b9⟩
            go_wp2_with fail
            go_ret
            exact ⟨rfl, HR.out.2.2.2.2.trans ((hHeld.trans (b9.mono hHeld.size)).mono HR.out.2.2.2.2.size)⟩
      · have hq : ∀ w, (Op.equalIn 10000 40 (.agg #[.int .i64 x.tm, .int .i64 x.kd, .int .i64 x.vl]) (.agg #[.int .i64 y.tm, .int .i64 y.kd, .int .i64 y.vl])).run Tryd.prog w = .ok false w := fun w => by rw [equal_en, decide_eq_false hxy]
        have Hs := Lib.hid (show Cr.eqB L1 L2 = false from by
          cases h : Cr.eqB L1 L2
          · rfl
          · have h1 := Cr.eqB_iff.1 h
            rw [(HQ.out.1.1 hx).1, (HQ.out.2.1.1 hy).1] at h1
            exact absurd (recL_inj hx hy h1) hxy)
        clear hx hy hxy
        refine wp_region_held_drew (S := (fun W => Below w6.heap.size w6 W)) (by kernel_rfl) (below_dr (below_d0 _)) (fun hHeld => ?_)
        refine take_at (i := 0) (d := 39) (oi := ?o30) (v := ?v30) ?hi30 ?hd30 (by kernel_rfl) (by kernel_rfl) (by kernel_rfl) ?hw30 ?hy30 ?hq30 (by assumption) ?r30
        case hi30 => (simp only [List.getElem?_toArray, List.getElem?_cons_zero]; rfl)
        case hd30 => rfl
        case hw30 => rfl
        case hy30 => ((intro w hSw; (try dsimp only at hSw); go_simp) <;> (with_reducible rfl))
        case hq30 => exact fun _ _ _ h => h
        simp only [List.set_cons_succ, List.set_cons_zero]
        refine take_at (i := 1) (d := 40) (oi := ?o31) (v := ?v31) ?hi31 ?hd31 (by kernel_rfl) (by kernel_rfl) (by kernel_rfl) ?hw31 ?hy31 ?hq31 (by assumption) ?r31
        case hi31 => (simp only [List.getElem?_toArray, List.getElem?_cons_succ, List.getElem?_cons_zero]; rfl)
        case hd31 => rfl
        case hw31 => rfl
        case hy31 => ((intro w hSw; (try dsimp only at hSw); go_simp) <;> (with_reducible rfl))
        case hq31 => exact fun _ _ _ h => h
        simp only [List.set_cons_succ, List.set_cons_zero]
        refine take_at (i := 2) (d := 41) (oi := ?o32) (v := ?v32) ?hi32 ?hd32 (by kernel_rfl) (by kernel_rfl) (by kernel_rfl) ?hw32 ?hy32 ?hq32 (by assumption) ?r32
        case hi32 => (simp only [List.getElem?_toArray, List.getElem?_cons_succ, List.getElem?_cons_zero]; rfl)
        case hd32 => rfl
        case hw32 => rfl
        case hy32 => ((intro w hSw; (try dsimp only at hSw); go_simp) <;> (with_reducible rfl))
        case hq32 => exact fun _ _ _ h => h
        simp only [List.set_cons_succ, List.set_cons_zero]
        refine take_at (i := 3) (d := 42) (oi := ?o33) (v := ?v33) ?hi33 ?hd33 (by kernel_rfl) (by kernel_rfl) (by kernel_rfl) ?hw33 ?hy33 ?hq33 (by assumption) ?r33
        case hi33 => (simp only [List.getElem?_toArray, List.getElem?_cons_succ, List.getElem?_cons_zero]; rfl)
        case hd33 => rfl
        case hw33 => rfl
        case hy33 => ((intro w hSw; (try dsimp only at hSw); go_simp) <;> (with_reducible rfl))
        case hq33 => exact fun _ _ _ h => h
        simp only [List.set_cons_succ, List.set_cons_zero]
        refine take_at (i := 4) (d := 43) (oi := ?o34) (v := ?v34) ?hi34 ?hd34 (by kernel_rfl) (by kernel_rfl) (by kernel_rfl) ?hw34 ?hy34 ?hq34 (by assumption) ?r34
        case hi34 => (simp only [List.getElem?_toArray, List.getElem?_cons_succ, List.getElem?_cons_zero]; rfl)
        case hd34 => rfl
        case hw34 => rfl
        case hy34 => ((intro w hSw; (try dsimp only at hSw); go_simp) <;> (with_reducible rfl))
        case hq34 => exact fun _ _ _ h => h
        simp only [List.set_cons_succ, List.set_cons_zero]
        refine take_at (i := 5) (d := 44) (oi := ?o35) (v := ?v35) ?hi35 ?hd35 (by kernel_rfl) (by kernel_rfl) (by kernel_rfl) ?hw35 ?hy35 ?hq35 (by assumption) ?r35
        case hi35 => (simp only [List.getElem?_toArray, List.getElem?_cons_succ, List.getElem?_cons_zero]; rfl)
        case hd35 => rfl
        case hw35 => rfl
        case hy35 => ((intro w hSw; (try dsimp only at hSw); go_simp) <;> (with_reducible rfl))
        case hq35 => exact fun _ _ _ h => h
        simp only [List.set_cons_succ, List.set_cons_zero]
        refine take_at (i := 6) (d := 45) (oi := ?o36) (v := ?v36) ?hi36 ?hd36 (by kernel_rfl) (by kernel_rfl) (by kernel_rfl) ?hw36 ?hy36 ?hq36 (by assumption) ?r36
        case hi36 => (simp only [List.getElem?_toArray, List.getElem?_cons_succ, List.getElem?_cons_zero]; rfl)
        case hd36 => rfl
        case hw36 => rfl
        case hy36 => ((intro w hSw; (try dsimp only at hSw); go_simp) <;> (with_reducible rfl))
        case hq36 => exact fun _ _ _ h => h
        simp only [List.set_cons_succ, List.set_cons_zero]
        refine take_at (i := 7) (d := 46) (oi := ?o37) (v := ?v37) ?hi37 ?hd37 (by kernel_rfl) (by kernel_rfl) (by kernel_rfl) ?hw37 ?hy37 ?hq37 (by assumption) ?r37
        case hi37 => (simp only [List.getElem?_toArray, List.getElem?_cons_succ, List.getElem?_cons_zero]; rfl)
        case hd37 => rfl
        case hw37 => rfl
        case hy37 => ((intro w hSw; (try dsimp only at hSw); go_simp) <;> (with_reducible rfl))
        case hq37 => exact fun _ _ _ h => h
        simp only [List.set_cons_succ, List.set_cons_zero]
        refine take_at (i := 8) (d := 47) (oi := ?o38) (v := ?v38) ?hi38 ?hd38 (by kernel_rfl) (by kernel_rfl) (by kernel_rfl) ?hw38 ?hy38 ?hq38 (by assumption) ?r38
        case hi38 => (simp only [List.getElem?_toArray, List.getElem?_cons_succ, List.getElem?_cons_zero]; rfl)
        case hd38 => rfl
        case hw38 => rfl
        case hy38 => ((intro w hSw; (try dsimp only at hSw); go_simp) <;> (with_reducible rfl))
        case hq38 => exact fun _ _ _ h => h
        simp only [List.set_cons_succ, List.set_cons_zero]
        refine take_at (i := 10) (d := 49) (oi := ?o39) (v := ?v39) ?hi39 ?hd39 (by kernel_rfl) (by kernel_rfl) (by kernel_rfl) ?hw39 ?hy39 ?hq39 (by assumption) ?r39
        case hi39 => (simp only [List.getElem?_toArray, List.getElem?_cons_succ, List.getElem?_cons_zero]; rfl)
        case hd39 => rfl
        case hw39 => rfl
        case hy39 => ((intro w hSw; (try dsimp only at hSw); obtain ⟨bx, by_⟩ := X0.out _ hSw; obtain ⟨k0, k1, k2⟩ := bx.cells; obtain ⟨m0, m1, m2⟩ := by_.cells; go_simp) <;> (with_reducible rfl))
        case hq39 => exact fun _ _ _ h => h
        simp only [List.set_cons_succ, List.set_cons_zero]
        refine take_at (i := 11) (d := 50) (oi := ?o40) (v := ?v40) ?hi40 ?hd40 (by kernel_rfl) (by kernel_rfl) (by kernel_rfl) ?hw40 ?hy40 ?hq40 (by assumption) ?r40
        case hi40 => (simp only [List.getElem?_toArray, List.getElem?_cons_succ, List.getElem?_cons_zero]; rfl)
        case hd40 => rfl
        case hw40 => rfl
        case hy40 => ((intro w hSw; (try dsimp only at hSw); obtain ⟨bx, by_⟩ := X0.out _ hSw; obtain ⟨k0, k1, k2⟩ := bx.cells; obtain ⟨m0, m1, m2⟩ := by_.cells; go_simp) <;> (with_reducible rfl))
        case hq40 => exact fun _ _ _ h => h
        simp only [List.set_cons_succ, List.set_cons_zero]
        refine take_at (i := 12) (d := 51) (oi := ?o41) (v := ?v41) ?hi41 ?hd41 (by kernel_rfl) (by kernel_rfl) (by kernel_rfl) ?hw41 ?hy41 ?hq41 (by assumption) ?r41
        case hi41 => (simp only [List.getElem?_toArray, List.getElem?_cons_succ, List.getElem?_cons_zero]; rfl)
        case hd41 => rfl
        case hw41 => rfl
        case hy41 => ((intro w hSw; (try dsimp only at hSw); go_simp) <;> (with_reducible rfl))
        case hq41 => exact fun _ _ _ h => h
        simp only [List.set_cons_succ, List.set_cons_zero]
        refine call_at (i := 9) (d := 48) (oi := ?o42) (f := ?f42) (args := ?a42) ?hi42 ?hd42 (by kernel_rfl) ?hw42 ?he42 ?hc42
        case hi42 => (simp only [List.getElem?_toArray, List.getElem?_cons_succ, List.getElem?_cons_zero]; rfl)
        case hd42 => rfl
        case hw42 => rfl
        case he42 => (go_simp; constructor <;> with_reducible rfl)
        have sm := same_any A1 A2 q1 q2 c1 c2 L1 L2 _ (HR.out.1.on hHeld hHeld.size) (HR.out.2.1.on hHeld hHeld.size) HY.out.1 HY.out.2.1
        rw [Hs.out] at sm
        refine Calls.mono sm ?_
        rintro r wv ⟨rfl, rfl⟩
        clear sm
        refine ⟨_, rfl, hHeld, fun hHeld => ?_⟩
        simp only [List.set_cons_succ, List.set_cons_zero]
        refine take_at (i := 13) (d := 52) (oi := ?o43) (v := ?v43) ?hi43 ?hd43 (by kernel_rfl) (by kernel_rfl) (by kernel_rfl) ?hw43 ?hy43 ?hq43 (by assumption) ?r43
        case hi43 => (simp only [List.getElem?_toArray, List.getElem?_cons_succ, List.getElem?_cons_zero]; rfl)
        case hd43 => rfl
        case hw43 => rfl
        case hy43 => ((intro w hSw; (try dsimp only at hSw); go_simp) <;> (with_reducible rfl))
        case hq43 => exact fun _ _ _ h => h
        simp only [List.set_cons_succ, List.set_cons_zero]
        refine take_at (i := 14) (d := 53) (oi := ?o44) (v := ?v44) ?hi44 ?hd44 (by kernel_rfl) (by kernel_rfl) (by kernel_rfl) ?hw44 ?hy44 ?hq44 (by assumption) ?r44
        case hi44 => (simp only [List.getElem?_toArray, List.getElem?_cons_succ, List.getElem?_cons_zero]; rfl)
        case hd44 => rfl
        case hw44 => rfl
        case hy44 => ((intro w hSw; (try dsimp only at hSw); go_simp) <;> (with_reducible rfl))
        case hq44 => exact fun _ _ _ h => h
        simp only [List.set_cons_succ, List.set_cons_zero]
        refine take_at (i := 15) (d := 54) (oi := ?o45) (v := ?v45) ?hi45 ?hd45 (by kernel_rfl) (by kernel_rfl) (by kernel_rfl) ?hw45 ?hy45 ?hq45 (by assumption) ?r45
        case hi45 => (simp only [List.getElem?_toArray, List.getElem?_cons_succ, List.getElem?_cons_zero]; rfl)
        case hd45 => rfl
        case hw45 => rfl
        case hy45 => ((intro w hSw; (try dsimp only at hSw); go_simp) <;> (with_reducible rfl))
        case hq45 => exact fun _ _ _ h => h
        simp only [List.set_cons_succ, List.set_cons_zero]
        refine take_at (i := 16) (d := 55) (oi := ?o46) (v := ?v46) ?hi46 ?hd46 (by kernel_rfl) (by kernel_rfl) (by kernel_rfl) ?hw46 ?hy46 ?hq46 (by assumption) ?r46
        case hi46 => (simp only [List.getElem?_toArray, List.getElem?_cons_succ, List.getElem?_cons_zero]; rfl)
        case hd46 => rfl
        case hw46 => rfl
        case hy46 => ((intro w hSw; (try dsimp only at hSw); go_simp) <;> (with_reducible rfl))
        case hq46 => exact fun _ _ _ h => h
        simp only [List.set_cons_succ, List.set_cons_zero]
        refine take_at (i := 17) (d := 56) (oi := ?o47) (v := ?v47) ?hi47 ?hd47 (by kernel_rfl) (by kernel_rfl) (by kernel_rfl) ?hw47 ?hy47 ?hq47 (by assumption) ?r47
        case hi47 => (simp only [List.getElem?_toArray, List.getElem?_cons_succ, List.getElem?_cons_zero]; rfl)
        case hd47 => rfl
        case hw47 => rfl
        case hy47 => ((intro w hSw; (try dsimp only at hSw); go_simp) <;> (with_reducible rfl))
        case hq47 => exact fun _ _ _ h => h
        simp only [List.set_cons_succ, List.set_cons_zero]
        refine take_at (i := 18) (d := 57) (oi := ?o48) (v := ?v48) ?hi48 ?hd48 (by kernel_rfl) (by kernel_rfl) (by kernel_rfl) ?hw48 ?hy48 ?hq48 (by assumption) ?r48
        case hi48 => (simp only [List.getElem?_toArray, List.getElem?_cons_succ, List.getElem?_cons_zero]; rfl)
        case hd48 => rfl
        case hw48 => rfl
        case hy48 => ((intro w hSw; (try dsimp only at hSw); obtain ⟨bx, by_⟩ := X0.out _ hSw; obtain ⟨k0, k1, k2⟩ := bx.cells; obtain ⟨m0, m1, m2⟩ := by_.cells; go_simp) <;> (with_reducible rfl))
        case hq48 => exact fun _ _ _ h => h
        simp only [List.set_cons_succ, List.set_cons_zero]
        refine call_at (i := 19) (d := 58) (oi := ?o49) (f := ?f49) (args := ?a49) ?hi49 ?hd49 (by kernel_rfl) ?hw49 ?he49 ?hc49
        case hi49 => (simp only [List.getElem?_toArray, List.getElem?_cons_succ, List.getElem?_cons_zero]; rfl)
        case hd49 => rfl
        case hw49 => rfl
        case he49 => (go_simp; constructor <;> with_reducible rfl)
        refine Calls.mono (rright_any x _) ?_
        rintro r wv ⟨rfl, hb1⟩
        rw [rb1]
        have kb : Below w6.heap.size w6 wv := hHeld.trans (hb1.mono hHeld.size)
        refine ⟨_, rfl, kb, fun hHeld => ?_⟩
        simp only [List.set_cons_succ, List.set_cons_zero]
        refine take_at (i := 20) (d := 59) (oi := ?o50) (v := ?v50) ?hi50 ?hd50 (by kernel_rfl) (by kernel_rfl) (by kernel_rfl) ?hw50 ?hy50 ?hq50 (by assumption) ?r50
        case hi50 => (simp only [List.getElem?_toArray, List.getElem?_cons_succ, List.getElem?_cons_zero]; rfl)
        case hd50 => rfl
        case hw50 => rfl
        case hy50 => ((intro w hSw; (try dsimp only at hSw); go_simp) <;> (with_reducible rfl))
        case hq50 => exact fun _ _ _ h => h
        simp only [List.set_cons_succ, List.set_cons_zero]
        refine take_at (i := 21) (d := 60) (oi := ?o51) (v := ?v51) ?hi51 ?hd51 (by kernel_rfl) (by kernel_rfl) (by kernel_rfl) ?hw51 ?hy51 ?hq51 (by assumption) ?r51
        case hi51 => (simp only [List.getElem?_toArray, List.getElem?_cons_succ, List.getElem?_cons_zero]; rfl)
        case hd51 => rfl
        case hw51 => rfl
        case hy51 => ((intro w hSw; (try dsimp only at hSw); go_simp) <;> (with_reducible rfl))
        case hq51 => exact fun _ _ _ h => h
        simp only [List.set_cons_succ, List.set_cons_zero]
        refine take_at (i := 22) (d := 61) (oi := ?o52) (v := ?v52) ?hi52 ?hd52 (by kernel_rfl) (by kernel_rfl) (by kernel_rfl) ?hw52 ?hy52 ?hq52 (by assumption) ?r52
        case hi52 => (simp only [List.getElem?_toArray, List.getElem?_cons_succ, List.getElem?_cons_zero]; rfl)
        case hd52 => rfl
        case hw52 => rfl
        case hy52 => ((intro w hSw; (try dsimp only at hSw); go_simp) <;> (with_reducible rfl))
        case hq52 => exact fun _ _ _ h => h
        simp only [List.set_cons_succ, List.set_cons_zero]
        refine take_at (i := 23) (d := 62) (oi := ?o53) (v := ?v53) ?hi53 ?hd53 (by kernel_rfl) (by kernel_rfl) (by kernel_rfl) ?hw53 ?hy53 ?hq53 (by assumption) ?r53
        case hi53 => (simp only [List.getElem?_toArray, List.getElem?_cons_succ, List.getElem?_cons_zero]; rfl)
        case hd53 => rfl
        case hw53 => rfl
        case hy53 => ((intro w hSw; (try dsimp only at hSw); go_simp) <;> (with_reducible rfl))
        case hq53 => exact fun _ _ _ h => h
        simp only [List.set_cons_succ, List.set_cons_zero]
        refine take_at (i := 24) (d := 63) (oi := ?o54) (v := ?v54) ?hi54 ?hd54 (by kernel_rfl) (by kernel_rfl) (by kernel_rfl) ?hw54 ?hy54 ?hq54 (by assumption) ?r54
        case hi54 => (simp only [List.getElem?_toArray, List.getElem?_cons_succ, List.getElem?_cons_zero]; rfl)
        case hd54 => rfl
        case hw54 => rfl
        case hy54 => ((intro w hSw; (try dsimp only at hSw); go_simp) <;> (with_reducible rfl))
        case hq54 => exact fun _ _ _ h => h
        simp only [List.set_cons_succ, List.set_cons_zero]
        refine take_at (i := 25) (d := 64) (oi := ?o55) (v := ?v55) ?hi55 ?hd55 (by kernel_rfl) (by kernel_rfl) (by kernel_rfl) ?hw55 ?hy55 ?hq55 (by assumption) ?r55
        case hi55 => (simp only [List.getElem?_toArray, List.getElem?_cons_succ, List.getElem?_cons_zero]; rfl)
        case hd55 => rfl
        case hw55 => rfl
        case hy55 => ((intro w hSw; (try dsimp only at hSw); obtain ⟨bx, by_⟩ := X0.out _ hSw; obtain ⟨k0, k1, k2⟩ := bx.cells; obtain ⟨m0, m1, m2⟩ := by_.cells; go_simp) <;> (with_reducible rfl))
        case hq55 => exact fun _ _ _ h => h
        simp only [List.set_cons_succ, List.set_cons_zero]
        refine call_at (i := 26) (d := 65) (oi := ?o56) (f := ?f56) (args := ?a56) ?hi56 ?hd56 (by kernel_rfl) ?hw56 ?he56 ?hc56
        case hi56 => (simp only [List.getElem?_toArray, List.getElem?_cons_succ, List.getElem?_cons_zero]; rfl)
        case hd56 => rfl
        case hw56 => rfl
        case he56 => (go_simp; constructor <;> with_reducible rfl)
        refine Calls.mono (rright_any y _) ?_
        rintro r wv ⟨rfl, hb1⟩
        rw [rb2]
        have kb : Below w6.heap.size w6 wv := hHeld.trans (hb1.mono hHeld.size)
        refine ⟨_, rfl, kb, fun hHeld => ?_⟩
        simp only [List.set_cons_succ, List.set_cons_zero]
        refine take_at (i := 27) (d := 66) (oi := ?o57) (v := ?v57) ?hi57 ?hd57 (by kernel_rfl) (by kernel_rfl) (by kernel_rfl) ?hw57 ?hy57 ?hq57 (by assumption) ?r57
        case hi57 => (simp only [List.getElem?_toArray, List.getElem?_cons_succ, List.getElem?_cons_zero]; rfl)
        case hd57 => rfl
        case hw57 => rfl
        case hy57 => ((intro w hSw; (try dsimp only at hSw); go_simp) <;> (with_reducible rfl))
        case hq57 => exact fun _ _ _ h => h
        simp only [List.set_cons_succ, List.set_cons_zero]
        refine take_at (i := 28) (d := 67) (oi := ?o58) (v := ?v58) ?hi58 ?hd58 (by kernel_rfl) (by kernel_rfl) (by kernel_rfl) ?hw58 ?hy58 ?hq58 (by assumption) ?r58
        case hi58 => (simp only [List.getElem?_toArray, List.getElem?_cons_succ, List.getElem?_cons_zero]; rfl)
        case hd58 => rfl
        case hw58 => rfl
        case hy58 => ((intro w hSw; (try dsimp only at hSw); go_simp) <;> (with_reducible rfl))
        case hq58 => exact fun _ _ _ h => h
        simp only [List.set_cons_succ, List.set_cons_zero]
        refine wpAnyH_done (by kernel_rfl) ?_ _
        by_cases hf : IdxP first
        · have q30 : (e3 == 0) = true := by rw [(HQ.out.2.2.1.1 hf).2]; rfl
          have f1 : (1 : Int) ≤ first := hf.1
          have f2 : first ≤ (1073741824 : Int) := hf.2
          by_cases ho : IdxP other
          · have q40 : (e4 == 0) = true := by rw [(HQ.out.2.2.2.1 ho).2]; rfl
            by_cases heq : first = other
            · have q5 : (first == other) = true := by simpa using heq
              have Hs := Lib.hid (show Cr.eqB L3 L4 = true from Cr.eqB_true (by rw [(HQ.out.2.2.1.1 hf).1, (HQ.out.2.2.2.1 ho).1, heq]))
              clear hf ho heq
              go_wp2_with fail
              have sm := same_any A3 A4 q3 q4 c3 c4 L3 L4 _ (HR.out.2.2.1.on hHeld hHeld.size) (HR.out.2.2.2.1.on hHeld hHeld.size) HY.out.2.2.1 HY.out.2.2.2
              rw [Hs.out] at sm
              refine Calls.mono sm ?_
              rintro e w9 ⟨rfl, rfl⟩
              clear sm
              go_wp2_with fail
              refine Calls.mono (wakes_true _ (HT.out.on (HR.out.2.2.2.2.trans (hHeld.mono HR.out.2.2.2.2.size)))) ?_
              rintro e w9 ⟨rfl, b9⟩
              go_wp2_with fail
              go_ret
              exact ⟨rfl, HR.out.2.2.2.2.trans ((hHeld.trans (b9.mono hHeld.size)).mono HR.out.2.2.2.2.size)⟩
            · have q5 : (first == other) = false := by simpa using heq
              have Hs := Lib.hid (show Cr.eqB L3 L4 = false from by
                cases h : Cr.eqB L3 L4
                · rfl
                · have h1 := Cr.eqB_iff.1 h
                  rw [(HQ.out.2.2.1.1 hf).1, (HQ.out.2.2.2.1 ho).1] at h1
                  exact absurd (headL_inj hf ho h1) heq)
              clear hf ho heq
              go_wp2_with fail
              have sm := same_any A3 A4 q3 q4 c3 c4 L3 L4 _ (HR.out.2.2.1.on hHeld hHeld.size) (HR.out.2.2.2.1.on hHeld hHeld.size) HY.out.2.2.1 HY.out.2.2.2
              rw [Hs.out] at sm
              refine Calls.mono sm ?_
              rintro e w9 ⟨rfl, rfl⟩
              clear sm
              go_wp2_with fail
              refine Calls.mono (wakes_true _ (HT.out.on (HR.out.2.2.2.2.trans (hHeld.mono HR.out.2.2.2.2.size)))) ?_
              rintro e w9 ⟨rfl, b9⟩
              go_wp2_with fail
              go_ret
              exact ⟨rfl, HR.out.2.2.2.2.trans ((hHeld.trans (b9.mono hHeld.size)).mono HR.out.2.2.2.2.size)⟩
          · have q40 : (e4 == 0) = false := by rw [HQ.out.2.2.2.2 ho]; rfl
            clear hf ho
            go_wp2_with fail
            refine Calls.mono (wakes_true _ (HT.out.on (HR.out.2.2.2.2.trans (hHeld.mono HR.out.2.2.2.2.size)))) ?_
            rintro e w9 ⟨rfl, b9⟩
            go_wp2_with fail
            go_ret
            exact ⟨rfl, HR.out.2.2.2.2.trans ((hHeld.trans (b9.mono hHeld.size)).mono HR.out.2.2.2.2.size)⟩
        · have q30 : (e3 == 0) = false := by rw [HQ.out.2.2.1.2 hf]; rfl
          by_cases f1 : (1 : Int) ≤ first
          · have f2 : (1073741824 : Int) < first := by unfold IdxP at hf; omega
            have f3 : ¬ first ≤ (1073741824 : Int) := by omega
            clear hf
            go_wp2_with fail
            refine Calls.mono (wakes_true _ (HT.out.on (HR.out.2.2.2.2.trans (hHeld.mono HR.out.2.2.2.2.size)))) ?_
            rintro e w9 ⟨rfl, b9⟩
            go_wp2_with fail
            go_ret
            exact ⟨rfl, HR.out.2.2.2.2.trans ((hHeld.trans (b9.mono hHeld.size)).mono HR.out.2.2.2.2.size)⟩
          · have f2 : first < (1 : Int) := by omega
            clear hf
            go_wp2_with fail
            refine Calls.mono (wakes_true _ (HT.out.on (HR.out.2.2.2.2.trans (hHeld.mono HR.out.2.2.2.2.size)))) ?_
            rintro e w9 ⟨rfl, b9⟩
            go_wp2_with fail
            go_ret
            exact ⟨rfl, HR.out.2.2.2.2.trans ((hHeld.trans (b9.mono hHeld.size)).mono HR.out.2.2.2.2.size)⟩
    · have q20 : (e2 == 0) = false := by rw [HQ.out.2.1.2 hy]; rfl
      have rb2 := rightB_not.2 hy
      clear hx hy
      refine wp_region_held_drew (S := (fun W => Below w6.heap.size w6 W)) (by kernel_rfl) (below_dr (below_d0 _)) (fun hHeld => ?_)
      refine take_at (i := 0) (d := 39) (oi := ?o59) (v := ?v59) ?hi59 ?hd59 (by kernel_rfl) (by kernel_rfl) (by kernel_rfl) ?hw59 ?hy59 ?hq59 (by assumption) ?r59
      case hi59 => (simp only [List.getElem?_toArray, List.getElem?_cons_zero]; rfl)
      case hd59 => rfl
      case hw59 => rfl
      case hy59 => ((intro w hSw; (try dsimp only at hSw); go_simp) <;> (with_reducible rfl))
      case hq59 => exact fun _ _ _ h => h
      simp only [List.set_cons_succ, List.set_cons_zero]
      refine take_at (i := 1) (d := 40) (oi := ?o60) (v := ?v60) ?hi60 ?hd60 (by kernel_rfl) (by kernel_rfl) (by kernel_rfl) ?hw60 ?hy60 ?hq60 (by assumption) ?r60
      case hi60 => (simp only [List.getElem?_toArray, List.getElem?_cons_succ, List.getElem?_cons_zero]; rfl)
      case hd60 => rfl
      case hw60 => rfl
      case hy60 => ((intro w hSw; (try dsimp only at hSw); go_simp) <;> (with_reducible rfl))
      case hq60 => exact fun _ _ _ h => h
      simp only [List.set_cons_succ, List.set_cons_zero]
      refine take_at (i := 2) (d := 41) (oi := ?o61) (v := ?v61) ?hi61 ?hd61 (by kernel_rfl) (by kernel_rfl) (by kernel_rfl) ?hw61 ?hy61 ?hq61 (by assumption) ?r61
      case hi61 => (simp only [List.getElem?_toArray, List.getElem?_cons_succ, List.getElem?_cons_zero]; rfl)
      case hd61 => rfl
      case hw61 => rfl
      case hy61 => ((intro w hSw; (try dsimp only at hSw); go_simp) <;> (with_reducible rfl))
      case hq61 => exact fun _ _ _ h => h
      simp only [List.set_cons_succ, List.set_cons_zero]
      refine take_at (i := 3) (d := 42) (oi := ?o62) (v := ?v62) ?hi62 ?hd62 (by kernel_rfl) (by kernel_rfl) (by kernel_rfl) ?hw62 ?hy62 ?hq62 (by assumption) ?r62
      case hi62 => (simp only [List.getElem?_toArray, List.getElem?_cons_succ, List.getElem?_cons_zero]; rfl)
      case hd62 => rfl
      case hw62 => rfl
      case hy62 => ((intro w hSw; (try dsimp only at hSw); go_simp) <;> (with_reducible rfl))
      case hq62 => exact fun _ _ _ h => h
      simp only [List.set_cons_succ, List.set_cons_zero]
      refine take_at (i := 4) (d := 43) (oi := ?o63) (v := ?v63) ?hi63 ?hd63 (by kernel_rfl) (by kernel_rfl) (by kernel_rfl) ?hw63 ?hy63 ?hq63 (by assumption) ?r63
      case hi63 => (simp only [List.getElem?_toArray, List.getElem?_cons_succ, List.getElem?_cons_zero]; rfl)
      case hd63 => rfl
      case hw63 => rfl
      case hy63 => ((intro w hSw; (try dsimp only at hSw); go_simp) <;> (with_reducible rfl))
      case hq63 => exact fun _ _ _ h => h
      simp only [List.set_cons_succ, List.set_cons_zero]
      refine take_at (i := 5) (d := 44) (oi := ?o64) (v := ?v64) ?hi64 ?hd64 (by kernel_rfl) (by kernel_rfl) (by kernel_rfl) ?hw64 ?hy64 ?hq64 (by assumption) ?r64
      case hi64 => (simp only [List.getElem?_toArray, List.getElem?_cons_succ, List.getElem?_cons_zero]; rfl)
      case hd64 => rfl
      case hw64 => rfl
      case hy64 => ((intro w hSw; (try dsimp only at hSw); go_simp) <;> (with_reducible rfl))
      case hq64 => exact fun _ _ _ h => h
      simp only [List.set_cons_succ, List.set_cons_zero]
      refine take_at (i := 6) (d := 45) (oi := ?o65) (v := ?v65) ?hi65 ?hd65 (by kernel_rfl) (by kernel_rfl) (by kernel_rfl) ?hw65 ?hy65 ?hq65 (by assumption) ?r65
      case hi65 => (simp only [List.getElem?_toArray, List.getElem?_cons_succ, List.getElem?_cons_zero]; rfl)
      case hd65 => rfl
      case hw65 => rfl
      case hy65 => ((intro w hSw; (try dsimp only at hSw); go_simp) <;> (with_reducible rfl))
      case hq65 => exact fun _ _ _ h => h
      simp only [List.set_cons_succ, List.set_cons_zero]
      refine skip_at (i := 7) (d := 46) (oi := ?o66) ?hi66 ?hd66 (by kernel_rfl) (by kernel_rfl) (by kernel_rfl) ?hw66 ?hq66 (by assumption) ?r66
      case hi66 => (simp only [List.getElem?_toArray, List.getElem?_cons_succ, List.getElem?_cons_zero]; rfl)
      case hd66 => rfl
      case hw66 => rfl
      case hq66 => exact fun _ _ _ h => h
      simp only [List.set_cons_succ, List.set_cons_zero]
      refine skip_at (i := 8) (d := 47) (oi := ?o67) ?hi67 ?hd67 (by kernel_rfl) (by kernel_rfl) (by kernel_rfl) ?hw67 ?hq67 (by assumption) ?r67
      case hi67 => (simp only [List.getElem?_toArray, List.getElem?_cons_succ, List.getElem?_cons_zero]; rfl)
      case hd67 => rfl
      case hw67 => rfl
      case hq67 => exact fun _ _ _ h => h
      simp only [List.set_cons_succ, List.set_cons_zero]
      refine skip_at (i := 9) (d := 48) (oi := ?o68) ?hi68 ?hd68 (by kernel_rfl) (by kernel_rfl) (by kernel_rfl) ?hw68 ?hq68 (by assumption) ?r68
      case hi68 => (simp only [List.getElem?_toArray, List.getElem?_cons_succ, List.getElem?_cons_zero]; rfl)
      case hd68 => rfl
      case hw68 => rfl
      case hq68 => exact fun _ _ _ h => h
      simp only [List.set_cons_succ, List.set_cons_zero]
      refine skip_at (i := 10) (d := 49) (oi := ?o69) ?hi69 ?hd69 (by kernel_rfl) (by kernel_rfl) (by kernel_rfl) ?hw69 ?hq69 (by assumption) ?r69
      case hi69 => (simp only [List.getElem?_toArray, List.getElem?_cons_succ, List.getElem?_cons_zero]; rfl)
      case hd69 => rfl
      case hw69 => rfl
      case hq69 => exact fun _ _ _ h => h
      simp only [List.set_cons_succ, List.set_cons_zero]
      refine skip_at (i := 11) (d := 50) (oi := ?o70) ?hi70 ?hd70 (by kernel_rfl) (by kernel_rfl) (by kernel_rfl) ?hw70 ?hq70 (by assumption) ?r70
      case hi70 => (simp only [List.getElem?_toArray, List.getElem?_cons_succ, List.getElem?_cons_zero]; rfl)
      case hd70 => rfl
      case hw70 => rfl
      case hq70 => exact fun _ _ _ h => h
      simp only [List.set_cons_succ, List.set_cons_zero]
      refine skip_at (i := 12) (d := 51) (oi := ?o71) ?hi71 ?hd71 (by kernel_rfl) (by kernel_rfl) (by kernel_rfl) ?hw71 ?hq71 (by assumption) ?r71
      case hi71 => (simp only [List.getElem?_toArray, List.getElem?_cons_succ, List.getElem?_cons_zero]; rfl)
      case hd71 => rfl
      case hw71 => rfl
      case hq71 => exact fun _ _ _ h => h
      simp only [List.set_cons_succ, List.set_cons_zero]
      refine skip_at (i := 13) (d := 52) (oi := ?o72) ?hi72 ?hd72 (by kernel_rfl) (by kernel_rfl) (by kernel_rfl) ?hw72 ?hq72 (by assumption) ?r72
      case hi72 => (simp only [List.getElem?_toArray, List.getElem?_cons_succ, List.getElem?_cons_zero]; rfl)
      case hd72 => rfl
      case hw72 => rfl
      case hq72 => exact fun _ _ _ h => h
      simp only [List.set_cons_succ, List.set_cons_zero]
      refine take_at (i := 14) (d := 53) (oi := ?o73) (v := ?v73) ?hi73 ?hd73 (by kernel_rfl) (by kernel_rfl) (by kernel_rfl) ?hw73 ?hy73 ?hq73 (by assumption) ?r73
      case hi73 => (simp only [List.getElem?_toArray, List.getElem?_cons_succ, List.getElem?_cons_zero]; rfl)
      case hd73 => rfl
      case hw73 => rfl
      case hy73 => ((intro w hSw; (try dsimp only at hSw); go_simp) <;> (with_reducible rfl))
      case hq73 => exact fun _ _ _ h => h
      simp only [List.set_cons_succ, List.set_cons_zero]
      refine take_at (i := 15) (d := 54) (oi := ?o74) (v := ?v74) ?hi74 ?hd74 (by kernel_rfl) (by kernel_rfl) (by kernel_rfl) ?hw74 ?hy74 ?hq74 (by assumption) ?r74
      case hi74 => (simp only [List.getElem?_toArray, List.getElem?_cons_succ, List.getElem?_cons_zero]; rfl)
      case hd74 => rfl
      case hw74 => rfl
      case hy74 => ((intro w hSw; (try dsimp only at hSw); go_simp) <;> (with_reducible rfl))
      case hq74 => exact fun _ _ _ h => h
      simp only [List.set_cons_succ, List.set_cons_zero]
      refine take_at (i := 16) (d := 55) (oi := ?o75) (v := ?v75) ?hi75 ?hd75 (by kernel_rfl) (by kernel_rfl) (by kernel_rfl) ?hw75 ?hy75 ?hq75 (by assumption) ?r75
      case hi75 => (simp only [List.getElem?_toArray, List.getElem?_cons_succ, List.getElem?_cons_zero]; rfl)
      case hd75 => rfl
      case hw75 => rfl
      case hy75 => ((intro w hSw; (try dsimp only at hSw); go_simp) <;> (with_reducible rfl))
      case hq75 => exact fun _ _ _ h => h
      simp only [List.set_cons_succ, List.set_cons_zero]
      refine take_at (i := 17) (d := 56) (oi := ?o76) (v := ?v76) ?hi76 ?hd76 (by kernel_rfl) (by kernel_rfl) (by kernel_rfl) ?hw76 ?hy76 ?hq76 (by assumption) ?r76
      case hi76 => (simp only [List.getElem?_toArray, List.getElem?_cons_succ, List.getElem?_cons_zero]; rfl)
      case hd76 => rfl
      case hw76 => rfl
      case hy76 => ((intro w hSw; (try dsimp only at hSw); go_simp) <;> (with_reducible rfl))
      case hq76 => exact fun _ _ _ h => h
      simp only [List.set_cons_succ, List.set_cons_zero]
      refine take_at (i := 18) (d := 57) (oi := ?o77) (v := ?v77) ?hi77 ?hd77 (by kernel_rfl) (by kernel_rfl) (by kernel_rfl) ?hw77 ?hy77 ?hq77 (by assumption) ?r77
      case hi77 => (simp only [List.getElem?_toArray, List.getElem?_cons_succ, List.getElem?_cons_zero]; rfl)
      case hd77 => rfl
      case hw77 => rfl
      case hy77 => ((intro w hSw; (try dsimp only at hSw); obtain ⟨bx, by_⟩ := X0.out _ hSw; obtain ⟨k0, k1, k2⟩ := bx.cells; obtain ⟨m0, m1, m2⟩ := by_.cells; go_simp) <;> (with_reducible rfl))
      case hq77 => exact fun _ _ _ h => h
      simp only [List.set_cons_succ, List.set_cons_zero]
      refine call_at (i := 19) (d := 58) (oi := ?o78) (f := ?f78) (args := ?a78) ?hi78 ?hd78 (by kernel_rfl) ?hw78 ?he78 ?hc78
      case hi78 => (simp only [List.getElem?_toArray, List.getElem?_cons_succ, List.getElem?_cons_zero]; rfl)
      case hd78 => rfl
      case hw78 => rfl
      case he78 => (go_simp; constructor <;> with_reducible rfl)
      refine Calls.mono (rright_any x _) ?_
      rintro r wv ⟨rfl, hb1⟩
      rw [rb1]
      have kb : Below w6.heap.size w6 wv := hHeld.trans (hb1.mono hHeld.size)
      refine ⟨_, rfl, kb, fun hHeld => ?_⟩
      simp only [List.set_cons_succ, List.set_cons_zero]
      refine take_at (i := 20) (d := 59) (oi := ?o79) (v := ?v79) ?hi79 ?hd79 (by kernel_rfl) (by kernel_rfl) (by kernel_rfl) ?hw79 ?hy79 ?hq79 (by assumption) ?r79
      case hi79 => (simp only [List.getElem?_toArray, List.getElem?_cons_succ, List.getElem?_cons_zero]; rfl)
      case hd79 => rfl
      case hw79 => rfl
      case hy79 => ((intro w hSw; (try dsimp only at hSw); go_simp) <;> (with_reducible rfl))
      case hq79 => exact fun _ _ _ h => h
      simp only [List.set_cons_succ, List.set_cons_zero]
      refine take_at (i := 21) (d := 60) (oi := ?o80) (v := ?v80) ?hi80 ?hd80 (by kernel_rfl) (by kernel_rfl) (by kernel_rfl) ?hw80 ?hy80 ?hq80 (by assumption) ?r80
      case hi80 => (simp only [List.getElem?_toArray, List.getElem?_cons_succ, List.getElem?_cons_zero]; rfl)
      case hd80 => rfl
      case hw80 => rfl
      case hy80 => ((intro w hSw; (try dsimp only at hSw); go_simp) <;> (with_reducible rfl))
      case hq80 => exact fun _ _ _ h => h
      simp only [List.set_cons_succ, List.set_cons_zero]
      refine take_at (i := 22) (d := 61) (oi := ?o81) (v := ?v81) ?hi81 ?hd81 (by kernel_rfl) (by kernel_rfl) (by kernel_rfl) ?hw81 ?hy81 ?hq81 (by assumption) ?r81
      case hi81 => (simp only [List.getElem?_toArray, List.getElem?_cons_succ, List.getElem?_cons_zero]; rfl)
      case hd81 => rfl
      case hw81 => rfl
      case hy81 => ((intro w hSw; (try dsimp only at hSw); go_simp) <;> (with_reducible rfl))
      case hq81 => exact fun _ _ _ h => h
      simp only [List.set_cons_succ, List.set_cons_zero]
      refine take_at (i := 23) (d := 62) (oi := ?o82) (v := ?v82) ?hi82 ?hd82 (by kernel_rfl) (by kernel_rfl) (by kernel_rfl) ?hw82 ?hy82 ?hq82 (by assumption) ?r82
      case hi82 => (simp only [List.getElem?_toArray, List.getElem?_cons_succ, List.getElem?_cons_zero]; rfl)
      case hd82 => rfl
      case hw82 => rfl
      case hy82 => ((intro w hSw; (try dsimp only at hSw); go_simp) <;> (with_reducible rfl))
      case hq82 => exact fun _ _ _ h => h
      simp only [List.set_cons_succ, List.set_cons_zero]
      refine take_at (i := 24) (d := 63) (oi := ?o83) (v := ?v83) ?hi83 ?hd83 (by kernel_rfl) (by kernel_rfl) (by kernel_rfl) ?hw83 ?hy83 ?hq83 (by assumption) ?r83
      case hi83 => (simp only [List.getElem?_toArray, List.getElem?_cons_succ, List.getElem?_cons_zero]; rfl)
      case hd83 => rfl
      case hw83 => rfl
      case hy83 => ((intro w hSw; (try dsimp only at hSw); go_simp) <;> (with_reducible rfl))
      case hq83 => exact fun _ _ _ h => h
      simp only [List.set_cons_succ, List.set_cons_zero]
      refine take_at (i := 25) (d := 64) (oi := ?o84) (v := ?v84) ?hi84 ?hd84 (by kernel_rfl) (by kernel_rfl) (by kernel_rfl) ?hw84 ?hy84 ?hq84 (by assumption) ?r84
      case hi84 => (simp only [List.getElem?_toArray, List.getElem?_cons_succ, List.getElem?_cons_zero]; rfl)
      case hd84 => rfl
      case hw84 => rfl
      case hy84 => ((intro w hSw; (try dsimp only at hSw); obtain ⟨bx, by_⟩ := X0.out _ hSw; obtain ⟨k0, k1, k2⟩ := bx.cells; obtain ⟨m0, m1, m2⟩ := by_.cells; go_simp) <;> (with_reducible rfl))
      case hq84 => exact fun _ _ _ h => h
      simp only [List.set_cons_succ, List.set_cons_zero]
      refine call_at (i := 26) (d := 65) (oi := ?o85) (f := ?f85) (args := ?a85) ?hi85 ?hd85 (by kernel_rfl) ?hw85 ?he85 ?hc85
      case hi85 => (simp only [List.getElem?_toArray, List.getElem?_cons_succ, List.getElem?_cons_zero]; rfl)
      case hd85 => rfl
      case hw85 => rfl
      case he85 => (go_simp; constructor <;> with_reducible rfl)
      refine Calls.mono (rright_any y _) ?_
      rintro r wv ⟨rfl, hb1⟩
      rw [rb2]
      have kb : Below w6.heap.size w6 wv := hHeld.trans (hb1.mono hHeld.size)
      refine ⟨_, rfl, kb, fun hHeld => ?_⟩
      simp only [List.set_cons_succ, List.set_cons_zero]
      refine take_at (i := 27) (d := 66) (oi := ?o86) (v := ?v86) ?hi86 ?hd86 (by kernel_rfl) (by kernel_rfl) (by kernel_rfl) ?hw86 ?hy86 ?hq86 (by assumption) ?r86
      case hi86 => (simp only [List.getElem?_toArray, List.getElem?_cons_succ, List.getElem?_cons_zero]; rfl)
      case hd86 => rfl
      case hw86 => rfl
      case hy86 => ((intro w hSw; (try dsimp only at hSw); go_simp) <;> (with_reducible rfl))
      case hq86 => exact fun _ _ _ h => h
      simp only [List.set_cons_succ, List.set_cons_zero]
      refine take_at (i := 28) (d := 67) (oi := ?o87) (v := ?v87) ?hi87 ?hd87 (by kernel_rfl) (by kernel_rfl) (by kernel_rfl) ?hw87 ?hy87 ?hq87 (by assumption) ?r87
      case hi87 => (simp only [List.getElem?_toArray, List.getElem?_cons_succ, List.getElem?_cons_zero]; rfl)
      case hd87 => rfl
      case hw87 => rfl
      case hy87 => ((intro w hSw; (try dsimp only at hSw); go_simp) <;> (with_reducible rfl))
      case hq87 => exact fun _ _ _ h => h
      simp only [List.set_cons_succ, List.set_cons_zero]
      refine wpAnyH_done (by kernel_rfl) ?_ _
      by_cases hf : IdxP first
      · have q30 : (e3 == 0) = true := by rw [(HQ.out.2.2.1.1 hf).2]; rfl
        have f1 : (1 : Int) ≤ first := hf.1
        have f2 : first ≤ (1073741824 : Int) := hf.2
        by_cases ho : IdxP other
        · have q40 : (e4 == 0) = true := by rw [(HQ.out.2.2.2.1 ho).2]; rfl
          by_cases heq : first = other
          · have q5 : (first == other) = true := by simpa using heq
            have Hs := Lib.hid (show Cr.eqB L3 L4 = true from Cr.eqB_true (by rw [(HQ.out.2.2.1.1 hf).1, (HQ.out.2.2.2.1 ho).1, heq]))
            clear hf ho heq
            go_wp2_with fail
            have sm := same_any A3 A4 q3 q4 c3 c4 L3 L4 _ (HR.out.2.2.1.on hHeld hHeld.size) (HR.out.2.2.2.1.on hHeld hHeld.size) HY.out.2.2.1 HY.out.2.2.2
            rw [Hs.out] at sm
            refine Calls.mono sm ?_
            rintro e w9 ⟨rfl, rfl⟩
            clear sm
            go_wp2_with fail
            refine Calls.mono (wakes_true _ (HT.out.on (HR.out.2.2.2.2.trans (hHeld.mono HR.out.2.2.2.2.size)))) ?_
            rintro e w9 ⟨rfl, b9⟩
            go_wp2_with fail
            go_ret
            exact ⟨rfl, HR.out.2.2.2.2.trans ((hHeld.trans (b9.mono hHeld.size)).mono HR.out.2.2.2.2.size)⟩
          · have q5 : (first == other) = false := by simpa using heq
            have Hs := Lib.hid (show Cr.eqB L3 L4 = false from by
              cases h : Cr.eqB L3 L4
              · rfl
              · have h1 := Cr.eqB_iff.1 h
                rw [(HQ.out.2.2.1.1 hf).1, (HQ.out.2.2.2.1 ho).1] at h1
                exact absurd (headL_inj hf ho h1) heq)
            clear hf ho heq
            go_wp2_with fail
            have sm := same_any A3 A4 q3 q4 c3 c4 L3 L4 _ (HR.out.2.2.1.on hHeld hHeld.size) (HR.out.2.2.2.1.on hHeld hHeld.size) HY.out.2.2.1 HY.out.2.2.2
            rw [Hs.out] at sm
            refine Calls.mono sm ?_
            rintro e w9 ⟨rfl, rfl⟩
            clear sm
            go_wp2_with fail
            refine Calls.mono (wakes_true _ (HT.out.on (HR.out.2.2.2.2.trans (hHeld.mono HR.out.2.2.2.2.size)))) ?_
            rintro e w9 ⟨rfl, b9⟩
            go_wp2_with fail
            go_ret
            exact ⟨rfl, HR.out.2.2.2.2.trans ((hHeld.trans (b9.mono hHeld.size)).mono HR.out.2.2.2.2.size)⟩
        · have q40 : (e4 == 0) = false := by rw [HQ.out.2.2.2.2 ho]; rfl
          clear hf ho
          go_wp2_with fail
          refine Calls.mono (wakes_true _ (HT.out.on (HR.out.2.2.2.2.trans (hHeld.mono HR.out.2.2.2.2.size)))) ?_
          rintro e w9 ⟨rfl, b9⟩
          go_wp2_with fail
          go_ret
          exact ⟨rfl, HR.out.2.2.2.2.trans ((hHeld.trans (b9.mono hHeld.size)).mono HR.out.2.2.2.2.size)⟩
      · have q30 : (e3 == 0) = false := by rw [HQ.out.2.2.1.2 hf]; rfl
        by_cases f1 : (1 : Int) ≤ first
        · have f2 : (1073741824 : Int) < first := by unfold IdxP at hf; omega
          have f3 : ¬ first ≤ (1073741824 : Int) := by omega
          clear hf
          go_wp2_with fail
          refine Calls.mono (wakes_true _ (HT.out.on (HR.out.2.2.2.2.trans (hHeld.mono HR.out.2.2.2.2.size)))) ?_
          rintro e w9 ⟨rfl, b9⟩
          go_wp2_with fail
          go_ret
          exact ⟨rfl, HR.out.2.2.2.2.trans ((hHeld.trans (b9.mono hHeld.size)).mono HR.out.2.2.2.2.size)⟩
        · have f2 : first < (1 : Int) := by omega
          clear hf
          go_wp2_with fail
          refine Calls.mono (wakes_true _ (HT.out.on (HR.out.2.2.2.2.trans (hHeld.mono HR.out.2.2.2.2.size)))) ?_
          rintro e w9 ⟨rfl, b9⟩
          go_wp2_with fail
          go_ret
          exact ⟨rfl, HR.out.2.2.2.2.trans ((hHeld.trans (b9.mono hHeld.size)).mono HR.out.2.2.2.2.size)⟩
  · have q10 : (e1 == 0) = false := by rw [HQ.out.1.2 hx]; rfl
    have q11 : (e1 != 0) = true := by rw [HQ.out.1.2 hx]; rfl
    have rb1 := rightB_not.2 hx
    by_cases hy : RightP y
    · have q20 : (e2 == 0) = true := by rw [(HQ.out.2.1.1 hy).2]; rfl
      have rb2 := rightB_iff.2 hy
      clear hx hy
      refine wp_region_held_drew (S := (fun W => Below w6.heap.size w6 W)) (by kernel_rfl) (below_dr (below_d0 _)) (fun hHeld => ?_)
      refine take_at (i := 0) (d := 39) (oi := ?o88) (v := ?v88) ?hi88 ?hd88 (by kernel_rfl) (by kernel_rfl) (by kernel_rfl) ?hw88 ?hy88 ?hq88 (by assumption) ?r88
      case hi88 => (simp only [List.getElem?_toArray, List.getElem?_cons_zero]; rfl)
      case hd88 => rfl
      case hw88 => rfl
      case hy88 => ((intro w hSw; (try dsimp only at hSw); go_simp) <;> (with_reducible rfl))
      case hq88 => exact fun _ _ _ h => h
      simp only [List.set_cons_succ, List.set_cons_zero]
      refine take_at (i := 1) (d := 40) (oi := ?o89) (v := ?v89) ?hi89 ?hd89 (by kernel_rfl) (by kernel_rfl) (by kernel_rfl) ?hw89 ?hy89 ?hq89 (by assumption) ?r89
      case hi89 => (simp only [List.getElem?_toArray, List.getElem?_cons_succ, List.getElem?_cons_zero]; rfl)
      case hd89 => rfl
      case hw89 => rfl
      case hy89 => ((intro w hSw; (try dsimp only at hSw); go_simp) <;> (with_reducible rfl))
      case hq89 => exact fun _ _ _ h => h
      simp only [List.set_cons_succ, List.set_cons_zero]
      refine take_at (i := 2) (d := 41) (oi := ?o90) (v := ?v90) ?hi90 ?hd90 (by kernel_rfl) (by kernel_rfl) (by kernel_rfl) ?hw90 ?hy90 ?hq90 (by assumption) ?r90
      case hi90 => (simp only [List.getElem?_toArray, List.getElem?_cons_succ, List.getElem?_cons_zero]; rfl)
      case hd90 => rfl
      case hw90 => rfl
      case hy90 => ((intro w hSw; (try dsimp only at hSw); go_simp) <;> (with_reducible rfl))
      case hq90 => exact fun _ _ _ h => h
      simp only [List.set_cons_succ, List.set_cons_zero]
      refine skip_at (i := 3) (d := 42) (oi := ?o91) ?hi91 ?hd91 (by kernel_rfl) (by kernel_rfl) (by kernel_rfl) ?hw91 ?hq91 (by assumption) ?r91
      case hi91 => (simp only [List.getElem?_toArray, List.getElem?_cons_succ, List.getElem?_cons_zero]; rfl)
      case hd91 => rfl
      case hw91 => rfl
      case hq91 => exact fun _ _ _ h => h
      simp only [List.set_cons_succ, List.set_cons_zero]
      refine skip_at (i := 4) (d := 43) (oi := ?o92) ?hi92 ?hd92 (by kernel_rfl) (by kernel_rfl) (by kernel_rfl) ?hw92 ?hq92 (by assumption) ?r92
      case hi92 => (simp only [List.getElem?_toArray, List.getElem?_cons_succ, List.getElem?_cons_zero]; rfl)
      case hd92 => rfl
      case hw92 => rfl
      case hq92 => exact fun _ _ _ h => h
      simp only [List.set_cons_succ, List.set_cons_zero]
      refine take_at (i := 5) (d := 44) (oi := ?o93) (v := ?v93) ?hi93 ?hd93 (by kernel_rfl) (by kernel_rfl) (by kernel_rfl) ?hw93 ?hy93 ?hq93 (by assumption) ?r93
      case hi93 => (simp only [List.getElem?_toArray, List.getElem?_cons_succ, List.getElem?_cons_zero]; rfl)
      case hd93 => rfl
      case hw93 => rfl
      case hy93 => ((intro w hSw; (try dsimp only at hSw); go_simp) <;> (with_reducible rfl))
      case hq93 => exact fun _ _ _ h => h
      simp only [List.set_cons_succ, List.set_cons_zero]
      refine take_at (i := 6) (d := 45) (oi := ?o94) (v := ?v94) ?hi94 ?hd94 (by kernel_rfl) (by kernel_rfl) (by kernel_rfl) ?hw94 ?hy94 ?hq94 (by assumption) ?r94
      case hi94 => (simp only [List.getElem?_toArray, List.getElem?_cons_succ, List.getElem?_cons_zero]; rfl)
      case hd94 => rfl
      case hw94 => rfl
      case hy94 => ((intro w hSw; (try dsimp only at hSw); go_simp) <;> (with_reducible rfl))
      case hq94 => exact fun _ _ _ h => h
      simp only [List.set_cons_succ, List.set_cons_zero]
      refine skip_at (i := 7) (d := 46) (oi := ?o95) ?hi95 ?hd95 (by kernel_rfl) (by kernel_rfl) (by kernel_rfl) ?hw95 ?hq95 (by assumption) ?r95
      case hi95 => (simp only [List.getElem?_toArray, List.getElem?_cons_succ, List.getElem?_cons_zero]; rfl)
      case hd95 => rfl
      case hw95 => rfl
      case hq95 => exact fun _ _ _ h => h
      simp only [List.set_cons_succ, List.set_cons_zero]
      refine skip_at (i := 8) (d := 47) (oi := ?o96) ?hi96 ?hd96 (by kernel_rfl) (by kernel_rfl) (by kernel_rfl) ?hw96 ?hq96 (by assumption) ?r96
      case hi96 => (simp only [List.getElem?_toArray, List.getElem?_cons_succ, List.getElem?_cons_zero]; rfl)
      case hd96 => rfl
      case hw96 => rfl
      case hq96 => exact fun _ _ _ h => h
      simp only [List.set_cons_succ, List.set_cons_zero]
      refine skip_at (i := 9) (d := 48) (oi := ?o97) ?hi97 ?hd97 (by kernel_rfl) (by kernel_rfl) (by kernel_rfl) ?hw97 ?hq97 (by assumption) ?r97
      case hi97 => (simp only [List.getElem?_toArray, List.getElem?_cons_succ, List.getElem?_cons_zero]; rfl)
      case hd97 => rfl
      case hw97 => rfl
      case hq97 => exact fun _ _ _ h => h
      simp only [List.set_cons_succ, List.set_cons_zero]
      refine skip_at (i := 10) (d := 49) (oi := ?o98) ?hi98 ?hd98 (by kernel_rfl) (by kernel_rfl) (by kernel_rfl) ?hw98 ?hq98 (by assumption) ?r98
      case hi98 => (simp only [List.getElem?_toArray, List.getElem?_cons_succ, List.getElem?_cons_zero]; rfl)
      case hd98 => rfl
      case hw98 => rfl
      case hq98 => exact fun _ _ _ h => h
      simp only [List.set_cons_succ, List.set_cons_zero]
      refine skip_at (i := 11) (d := 50) (oi := ?o99) ?hi99 ?hd99 (by kernel_rfl) (by kernel_rfl) (by kernel_rfl) ?hw99 ?hq99 (by assumption) ?r99
      case hi99 => (simp only [List.getElem?_toArray, List.getElem?_cons_succ, List.getElem?_cons_zero]; rfl)
      case hd99 => rfl
      case hw99 => rfl
      case hq99 => exact fun _ _ _ h => h
      simp only [List.set_cons_succ, List.set_cons_zero]
      refine skip_at (i := 12) (d := 51) (oi := ?o100) ?hi100 ?hd100 (by kernel_rfl) (by kernel_rfl) (by kernel_rfl) ?hw100 ?hq100 (by assumption) ?r100
      case hi100 => (simp only [List.getElem?_toArray, List.getElem?_cons_succ, List.getElem?_cons_zero]; rfl)
      case hd100 => rfl
      case hw100 => rfl
      case hq100 => exact fun _ _ _ h => h
      simp only [List.set_cons_succ, List.set_cons_zero]
      refine skip_at (i := 13) (d := 52) (oi := ?o101) ?hi101 ?hd101 (by kernel_rfl) (by kernel_rfl) (by kernel_rfl) ?hw101 ?hq101 (by assumption) ?r101
      case hi101 => (simp only [List.getElem?_toArray, List.getElem?_cons_succ, List.getElem?_cons_zero]; rfl)
      case hd101 => rfl
      case hw101 => rfl
      case hq101 => exact fun _ _ _ h => h
      simp only [List.set_cons_succ, List.set_cons_zero]
      refine take_at (i := 14) (d := 53) (oi := ?o102) (v := ?v102) ?hi102 ?hd102 (by kernel_rfl) (by kernel_rfl) (by kernel_rfl) ?hw102 ?hy102 ?hq102 (by assumption) ?r102
      case hi102 => (simp only [List.getElem?_toArray, List.getElem?_cons_succ, List.getElem?_cons_zero]; rfl)
      case hd102 => rfl
      case hw102 => rfl
      case hy102 => ((intro w hSw; (try dsimp only at hSw); go_simp) <;> (with_reducible rfl))
      case hq102 => exact fun _ _ _ h => h
      simp only [List.set_cons_succ, List.set_cons_zero]
      refine take_at (i := 15) (d := 54) (oi := ?o103) (v := ?v103) ?hi103 ?hd103 (by kernel_rfl) (by kernel_rfl) (by kernel_rfl) ?hw103 ?hy103 ?hq103 (by assumption) ?r103
      case hi103 => (simp only [List.getElem?_toArray, List.getElem?_cons_succ, List.getElem?_cons_zero]; rfl)
      case hd103 => rfl
      case hw103 => rfl
      case hy103 => ((intro w hSw; (try dsimp only at hSw); go_simp) <;> (with_reducible rfl))
      case hq103 => exact fun _ _ _ h => h
      simp only [List.set_cons_succ, List.set_cons_zero]
      refine take_at (i := 16) (d := 55) (oi := ?o104) (v := ?v104) ?hi104 ?hd104 (by kernel_rfl) (by kernel_rfl) (by kernel_rfl) ?hw104 ?hy104 ?hq104 (by assumption) ?r104
      case hi104 => (simp only [List.getElem?_toArray, List.getElem?_cons_succ, List.getElem?_cons_zero]; rfl)
      case hd104 => rfl
      case hw104 => rfl
      case hy104 => ((intro w hSw; (try dsimp only at hSw); go_simp) <;> (with_reducible rfl))
      case hq104 => exact fun _ _ _ h => h
      simp only [List.set_cons_succ, List.set_cons_zero]
      refine take_at (i := 17) (d := 56) (oi := ?o105) (v := ?v105) ?hi105 ?hd105 (by kernel_rfl) (by kernel_rfl) (by kernel_rfl) ?hw105 ?hy105 ?hq105 (by assumption) ?r105
      case hi105 => (simp only [List.getElem?_toArray, List.getElem?_cons_succ, List.getElem?_cons_zero]; rfl)
      case hd105 => rfl
      case hw105 => rfl
      case hy105 => ((intro w hSw; (try dsimp only at hSw); go_simp) <;> (with_reducible rfl))
      case hq105 => exact fun _ _ _ h => h
      simp only [List.set_cons_succ, List.set_cons_zero]
      refine take_at (i := 18) (d := 57) (oi := ?o106) (v := ?v106) ?hi106 ?hd106 (by kernel_rfl) (by kernel_rfl) (by kernel_rfl) ?hw106 ?hy106 ?hq106 (by assumption) ?r106
      case hi106 => (simp only [List.getElem?_toArray, List.getElem?_cons_succ, List.getElem?_cons_zero]; rfl)
      case hd106 => rfl
      case hw106 => rfl
      case hy106 => ((intro w hSw; (try dsimp only at hSw); obtain ⟨bx, by_⟩ := X0.out _ hSw; obtain ⟨k0, k1, k2⟩ := bx.cells; obtain ⟨m0, m1, m2⟩ := by_.cells; go_simp) <;> (with_reducible rfl))
      case hq106 => exact fun _ _ _ h => h
      simp only [List.set_cons_succ, List.set_cons_zero]
      refine call_at (i := 19) (d := 58) (oi := ?o107) (f := ?f107) (args := ?a107) ?hi107 ?hd107 (by kernel_rfl) ?hw107 ?he107 ?hc107
      case hi107 => (simp only [List.getElem?_toArray, List.getElem?_cons_succ, List.getElem?_cons_zero]; rfl)
      case hd107 => rfl
      case hw107 => rfl
      case he107 => (go_simp; constructor <;> with_reducible rfl)
      refine Calls.mono (rright_any x _) ?_
      rintro r wv ⟨rfl, hb1⟩
      rw [rb1]
      have kb : Below w6.heap.size w6 wv := hHeld.trans (hb1.mono hHeld.size)
      refine ⟨_, rfl, kb, fun hHeld => ?_⟩
      simp only [List.set_cons_succ, List.set_cons_zero]
      refine take_at (i := 20) (d := 59) (oi := ?o108) (v := ?v108) ?hi108 ?hd108 (by kernel_rfl) (by kernel_rfl) (by kernel_rfl) ?hw108 ?hy108 ?hq108 (by assumption) ?r108
      case hi108 => (simp only [List.getElem?_toArray, List.getElem?_cons_succ, List.getElem?_cons_zero]; rfl)
      case hd108 => rfl
      case hw108 => rfl
      case hy108 => ((intro w hSw; (try dsimp only at hSw); go_simp) <;> (with_reducible rfl))
      case hq108 => exact fun _ _ _ h => h
      simp only [List.set_cons_succ, List.set_cons_zero]
      refine take_at (i := 21) (d := 60) (oi := ?o109) (v := ?v109) ?hi109 ?hd109 (by kernel_rfl) (by kernel_rfl) (by kernel_rfl) ?hw109 ?hy109 ?hq109 (by assumption) ?r109
      case hi109 => (simp only [List.getElem?_toArray, List.getElem?_cons_succ, List.getElem?_cons_zero]; rfl)
      case hd109 => rfl
      case hw109 => rfl
      case hy109 => ((intro w hSw; (try dsimp only at hSw); go_simp) <;> (with_reducible rfl))
      case hq109 => exact fun _ _ _ h => h
      simp only [List.set_cons_succ, List.set_cons_zero]
      refine take_at (i := 22) (d := 61) (oi := ?o110) (v := ?v110) ?hi110 ?hd110 (by kernel_rfl) (by kernel_rfl) (by kernel_rfl) ?hw110 ?hy110 ?hq110 (by assumption) ?r110
      case hi110 => (simp only [List.getElem?_toArray, List.getElem?_cons_succ, List.getElem?_cons_zero]; rfl)
      case hd110 => rfl
      case hw110 => rfl
      case hy110 => ((intro w hSw; (try dsimp only at hSw); go_simp) <;> (with_reducible rfl))
      case hq110 => exact fun _ _ _ h => h
      simp only [List.set_cons_succ, List.set_cons_zero]
      refine take_at (i := 23) (d := 62) (oi := ?o111) (v := ?v111) ?hi111 ?hd111 (by kernel_rfl) (by kernel_rfl) (by kernel_rfl) ?hw111 ?hy111 ?hq111 (by assumption) ?r111
      case hi111 => (simp only [List.getElem?_toArray, List.getElem?_cons_succ, List.getElem?_cons_zero]; rfl)
      case hd111 => rfl
      case hw111 => rfl
      case hy111 => ((intro w hSw; (try dsimp only at hSw); go_simp) <;> (with_reducible rfl))
      case hq111 => exact fun _ _ _ h => h
      simp only [List.set_cons_succ, List.set_cons_zero]
      refine take_at (i := 24) (d := 63) (oi := ?o112) (v := ?v112) ?hi112 ?hd112 (by kernel_rfl) (by kernel_rfl) (by kernel_rfl) ?hw112 ?hy112 ?hq112 (by assumption) ?r112
      case hi112 => (simp only [List.getElem?_toArray, List.getElem?_cons_succ, List.getElem?_cons_zero]; rfl)
      case hd112 => rfl
      case hw112 => rfl
      case hy112 => ((intro w hSw; (try dsimp only at hSw); go_simp) <;> (with_reducible rfl))
      case hq112 => exact fun _ _ _ h => h
      simp only [List.set_cons_succ, List.set_cons_zero]
      refine take_at (i := 25) (d := 64) (oi := ?o113) (v := ?v113) ?hi113 ?hd113 (by kernel_rfl) (by kernel_rfl) (by kernel_rfl) ?hw113 ?hy113 ?hq113 (by assumption) ?r113
      case hi113 => (simp only [List.getElem?_toArray, List.getElem?_cons_succ, List.getElem?_cons_zero]; rfl)
      case hd113 => rfl
      case hw113 => rfl
      case hy113 => ((intro w hSw; (try dsimp only at hSw); obtain ⟨bx, by_⟩ := X0.out _ hSw; obtain ⟨k0, k1, k2⟩ := bx.cells; obtain ⟨m0, m1, m2⟩ := by_.cells; go_simp) <;> (with_reducible rfl))
      case hq113 => exact fun _ _ _ h => h
      simp only [List.set_cons_succ, List.set_cons_zero]
      refine call_at (i := 26) (d := 65) (oi := ?o114) (f := ?f114) (args := ?a114) ?hi114 ?hd114 (by kernel_rfl) ?hw114 ?he114 ?hc114
      case hi114 => (simp only [List.getElem?_toArray, List.getElem?_cons_succ, List.getElem?_cons_zero]; rfl)
      case hd114 => rfl
      case hw114 => rfl
      case he114 => (go_simp; constructor <;> with_reducible rfl)
      refine Calls.mono (rright_any y _) ?_
      rintro r wv ⟨rfl, hb1⟩
      rw [rb2]
      have kb : Below w6.heap.size w6 wv := hHeld.trans (hb1.mono hHeld.size)
      refine ⟨_, rfl, kb, fun hHeld => ?_⟩
      simp only [List.set_cons_succ, List.set_cons_zero]
      refine take_at (i := 27) (d := 66) (oi := ?o115) (v := ?v115) ?hi115 ?hd115 (by kernel_rfl) (by kernel_rfl) (by kernel_rfl) ?hw115 ?hy115 ?hq115 (by assumption) ?r115
      case hi115 => (simp only [List.getElem?_toArray, List.getElem?_cons_succ, List.getElem?_cons_zero]; rfl)
      case hd115 => rfl
      case hw115 => rfl
      case hy115 => ((intro w hSw; (try dsimp only at hSw); go_simp) <;> (with_reducible rfl))
      case hq115 => exact fun _ _ _ h => h
      simp only [List.set_cons_succ, List.set_cons_zero]
      refine take_at (i := 28) (d := 67) (oi := ?o116) (v := ?v116) ?hi116 ?hd116 (by kernel_rfl) (by kernel_rfl) (by kernel_rfl) ?hw116 ?hy116 ?hq116 (by assumption) ?r116
      case hi116 => (simp only [List.getElem?_toArray, List.getElem?_cons_succ, List.getElem?_cons_zero]; rfl)
      case hd116 => rfl
      case hw116 => rfl
      case hy116 => ((intro w hSw; (try dsimp only at hSw); go_simp) <;> (with_reducible rfl))
      case hq116 => exact fun _ _ _ h => h
      simp only [List.set_cons_succ, List.set_cons_zero]
      refine wpAnyH_done (by kernel_rfl) ?_ _
      by_cases hf : IdxP first
      · have q30 : (e3 == 0) = true := by rw [(HQ.out.2.2.1.1 hf).2]; rfl
        have f1 : (1 : Int) ≤ first := hf.1
        have f2 : first ≤ (1073741824 : Int) := hf.2
        by_cases ho : IdxP other
        · have q40 : (e4 == 0) = true := by rw [(HQ.out.2.2.2.1 ho).2]; rfl
          by_cases heq : first = other
          · have q5 : (first == other) = true := by simpa using heq
            have Hs := Lib.hid (show Cr.eqB L3 L4 = true from Cr.eqB_true (by rw [(HQ.out.2.2.1.1 hf).1, (HQ.out.2.2.2.1 ho).1, heq]))
            clear hf ho heq
            go_wp2_with fail
            have sm := same_any A3 A4 q3 q4 c3 c4 L3 L4 _ (HR.out.2.2.1.on hHeld hHeld.size) (HR.out.2.2.2.1.on hHeld hHeld.size) HY.out.2.2.1 HY.out.2.2.2
            rw [Hs.out] at sm
            refine Calls.mono sm ?_
            rintro e w9 ⟨rfl, rfl⟩
            clear sm
            go_wp2_with fail
            refine Calls.mono (wakes_true _ (HT.out.on (HR.out.2.2.2.2.trans (hHeld.mono HR.out.2.2.2.2.size)))) ?_
            rintro e w9 ⟨rfl, b9⟩
            go_wp2_with fail
            go_ret
            exact ⟨rfl, HR.out.2.2.2.2.trans ((hHeld.trans (b9.mono hHeld.size)).mono HR.out.2.2.2.2.size)⟩
          · have q5 : (first == other) = false := by simpa using heq
            have Hs := Lib.hid (show Cr.eqB L3 L4 = false from by
              cases h : Cr.eqB L3 L4
              · rfl
              · have h1 := Cr.eqB_iff.1 h
                rw [(HQ.out.2.2.1.1 hf).1, (HQ.out.2.2.2.1 ho).1] at h1
                exact absurd (headL_inj hf ho h1) heq)
            clear hf ho heq
            go_wp2_with fail
            have sm := same_any A3 A4 q3 q4 c3 c4 L3 L4 _ (HR.out.2.2.1.on hHeld hHeld.size) (HR.out.2.2.2.1.on hHeld hHeld.size) HY.out.2.2.1 HY.out.2.2.2
            rw [Hs.out] at sm
            refine Calls.mono sm ?_
            rintro e w9 ⟨rfl, rfl⟩
            clear sm
            go_wp2_with fail
            refine Calls.mono (wakes_true _ (HT.out.on (HR.out.2.2.2.2.trans (hHeld.mono HR.out.2.2.2.2.size)))) ?_
            rintro e w9 ⟨rfl, b9⟩
            go_wp2_with fail
            go_ret
            exact ⟨rfl, HR.out.2.2.2.2.trans ((hHeld.trans (b9.mono hHeld.size)).mono HR.out.2.2.2.2.size)⟩
        · have q40 : (e4 == 0) = false := by rw [HQ.out.2.2.2.2 ho]; rfl
          clear hf ho
          go_wp2_with fail
          refine Calls.mono (wakes_true _ (HT.out.on (HR.out.2.2.2.2.trans (hHeld.mono HR.out.2.2.2.2.size)))) ?_
          rintro e w9 ⟨rfl, b9⟩
          go_wp2_with fail
          go_ret
          exact ⟨rfl, HR.out.2.2.2.2.trans ((hHeld.trans (b9.mono hHeld.size)).mono HR.out.2.2.2.2.size)⟩
      · have q30 : (e3 == 0) = false := by rw [HQ.out.2.2.1.2 hf]; rfl
        by_cases f1 : (1 : Int) ≤ first
        · have f2 : (1073741824 : Int) < first := by unfold IdxP at hf; omega
          have f3 : ¬ first ≤ (1073741824 : Int) := by omega
          clear hf
          go_wp2_with fail
          refine Calls.mono (wakes_true _ (HT.out.on (HR.out.2.2.2.2.trans (hHeld.mono HR.out.2.2.2.2.size)))) ?_
          rintro e w9 ⟨rfl, b9⟩
          go_wp2_with fail
          go_ret
          exact ⟨rfl, HR.out.2.2.2.2.trans ((hHeld.trans (b9.mono hHeld.size)).mono HR.out.2.2.2.2.size)⟩
        · have f2 : first < (1 : Int) := by omega
          clear hf
          go_wp2_with fail
          refine Calls.mono (wakes_true _ (HT.out.on (HR.out.2.2.2.2.trans (hHeld.mono HR.out.2.2.2.2.size)))) ?_
          rintro e w9 ⟨rfl, b9⟩
          go_wp2_with fail
          go_ret
          exact ⟨rfl, HR.out.2.2.2.2.trans ((hHeld.trans (b9.mono hHeld.size)).mono HR.out.2.2.2.2.size)⟩
    · have q20 : (e2 == 0) = false := by rw [HQ.out.2.1.2 hy]; rfl
      have rb2 := rightB_not.2 hy
      clear hx hy
      refine wp_region_held_drew (S := (fun W => Below w6.heap.size w6 W)) (by kernel_rfl) (below_dr (below_d0 _)) (fun hHeld => ?_)
      refine take_at (i := 0) (d := 39) (oi := ?o117) (v := ?v117) ?hi117 ?hd117 (by kernel_rfl) (by kernel_rfl) (by kernel_rfl) ?hw117 ?hy117 ?hq117 (by assumption) ?r117
      case hi117 => (simp only [List.getElem?_toArray, List.getElem?_cons_zero]; rfl)
      case hd117 => rfl
      case hw117 => rfl
      case hy117 => ((intro w hSw; (try dsimp only at hSw); go_simp) <;> (with_reducible rfl))
      case hq117 => exact fun _ _ _ h => h
      simp only [List.set_cons_succ, List.set_cons_zero]
      refine take_at (i := 1) (d := 40) (oi := ?o118) (v := ?v118) ?hi118 ?hd118 (by kernel_rfl) (by kernel_rfl) (by kernel_rfl) ?hw118 ?hy118 ?hq118 (by assumption) ?r118
      case hi118 => (simp only [List.getElem?_toArray, List.getElem?_cons_succ, List.getElem?_cons_zero]; rfl)
      case hd118 => rfl
      case hw118 => rfl
      case hy118 => ((intro w hSw; (try dsimp only at hSw); go_simp) <;> (with_reducible rfl))
      case hq118 => exact fun _ _ _ h => h
      simp only [List.set_cons_succ, List.set_cons_zero]
      refine take_at (i := 2) (d := 41) (oi := ?o119) (v := ?v119) ?hi119 ?hd119 (by kernel_rfl) (by kernel_rfl) (by kernel_rfl) ?hw119 ?hy119 ?hq119 (by assumption) ?r119
      case hi119 => (simp only [List.getElem?_toArray, List.getElem?_cons_succ, List.getElem?_cons_zero]; rfl)
      case hd119 => rfl
      case hw119 => rfl
      case hy119 => ((intro w hSw; (try dsimp only at hSw); go_simp) <;> (with_reducible rfl))
      case hq119 => exact fun _ _ _ h => h
      simp only [List.set_cons_succ, List.set_cons_zero]
      refine skip_at (i := 3) (d := 42) (oi := ?o120) ?hi120 ?hd120 (by kernel_rfl) (by kernel_rfl) (by kernel_rfl) ?hw120 ?hq120 (by assumption) ?r120
      case hi120 => (simp only [List.getElem?_toArray, List.getElem?_cons_succ, List.getElem?_cons_zero]; rfl)
      case hd120 => rfl
      case hw120 => rfl
      case hq120 => exact fun _ _ _ h => h
      simp only [List.set_cons_succ, List.set_cons_zero]
      refine skip_at (i := 4) (d := 43) (oi := ?o121) ?hi121 ?hd121 (by kernel_rfl) (by kernel_rfl) (by kernel_rfl) ?hw121 ?hq121 (by assumption) ?r121
      case hi121 => (simp only [List.getElem?_toArray, List.getElem?_cons_succ, List.getElem?_cons_zero]; rfl)
      case hd121 => rfl
      case hw121 => rfl
      case hq121 => exact fun _ _ _ h => h
      simp only [List.set_cons_succ, List.set_cons_zero]
      refine take_at (i := 5) (d := 44) (oi := ?o122) (v := ?v122) ?hi122 ?hd122 (by kernel_rfl) (by kernel_rfl) (by kernel_rfl) ?hw122 ?hy122 ?hq122 (by assumption) ?r122
      case hi122 => (simp only [List.getElem?_toArray, List.getElem?_cons_succ, List.getElem?_cons_zero]; rfl)
      case hd122 => rfl
      case hw122 => rfl
      case hy122 => ((intro w hSw; (try dsimp only at hSw); go_simp) <;> (with_reducible rfl))
      case hq122 => exact fun _ _ _ h => h
      simp only [List.set_cons_succ, List.set_cons_zero]
      refine take_at (i := 6) (d := 45) (oi := ?o123) (v := ?v123) ?hi123 ?hd123 (by kernel_rfl) (by kernel_rfl) (by kernel_rfl) ?hw123 ?hy123 ?hq123 (by assumption) ?r123
      case hi123 => (simp only [List.getElem?_toArray, List.getElem?_cons_succ, List.getElem?_cons_zero]; rfl)
      case hd123 => rfl
      case hw123 => rfl
      case hy123 => ((intro w hSw; (try dsimp only at hSw); go_simp) <;> (with_reducible rfl))
      case hq123 => exact fun _ _ _ h => h
      simp only [List.set_cons_succ, List.set_cons_zero]
      refine skip_at (i := 7) (d := 46) (oi := ?o124) ?hi124 ?hd124 (by kernel_rfl) (by kernel_rfl) (by kernel_rfl) ?hw124 ?hq124 (by assumption) ?r124
      case hi124 => (simp only [List.getElem?_toArray, List.getElem?_cons_succ, List.getElem?_cons_zero]; rfl)
      case hd124 => rfl
      case hw124 => rfl
      case hq124 => exact fun _ _ _ h => h
      simp only [List.set_cons_succ, List.set_cons_zero]
      refine skip_at (i := 8) (d := 47) (oi := ?o125) ?hi125 ?hd125 (by kernel_rfl) (by kernel_rfl) (by kernel_rfl) ?hw125 ?hq125 (by assumption) ?r125
      case hi125 => (simp only [List.getElem?_toArray, List.getElem?_cons_succ, List.getElem?_cons_zero]; rfl)
      case hd125 => rfl
      case hw125 => rfl
      case hq125 => exact fun _ _ _ h => h
      simp only [List.set_cons_succ, List.set_cons_zero]
      refine skip_at (i := 9) (d := 48) (oi := ?o126) ?hi126 ?hd126 (by kernel_rfl) (by kernel_rfl) (by kernel_rfl) ?hw126 ?hq126 (by assumption) ?r126
      case hi126 => (simp only [List.getElem?_toArray, List.getElem?_cons_succ, List.getElem?_cons_zero]; rfl)
      case hd126 => rfl
      case hw126 => rfl
      case hq126 => exact fun _ _ _ h => h
      simp only [List.set_cons_succ, List.set_cons_zero]
      refine skip_at (i := 10) (d := 49) (oi := ?o127) ?hi127 ?hd127 (by kernel_rfl) (by kernel_rfl) (by kernel_rfl) ?hw127 ?hq127 (by assumption) ?r127
      case hi127 => (simp only [List.getElem?_toArray, List.getElem?_cons_succ, List.getElem?_cons_zero]; rfl)
      case hd127 => rfl
      case hw127 => rfl
      case hq127 => exact fun _ _ _ h => h
      simp only [List.set_cons_succ, List.set_cons_zero]
      refine skip_at (i := 11) (d := 50) (oi := ?o128) ?hi128 ?hd128 (by kernel_rfl) (by kernel_rfl) (by kernel_rfl) ?hw128 ?hq128 (by assumption) ?r128
      case hi128 => (simp only [List.getElem?_toArray, List.getElem?_cons_succ, List.getElem?_cons_zero]; rfl)
      case hd128 => rfl
      case hw128 => rfl
      case hq128 => exact fun _ _ _ h => h
      simp only [List.set_cons_succ, List.set_cons_zero]
      refine skip_at (i := 12) (d := 51) (oi := ?o129) ?hi129 ?hd129 (by kernel_rfl) (by kernel_rfl) (by kernel_rfl) ?hw129 ?hq129 (by assumption) ?r129
      case hi129 => (simp only [List.getElem?_toArray, List.getElem?_cons_succ, List.getElem?_cons_zero]; rfl)
      case hd129 => rfl
      case hw129 => rfl
      case hq129 => exact fun _ _ _ h => h
      simp only [List.set_cons_succ, List.set_cons_zero]
      refine skip_at (i := 13) (d := 52) (oi := ?o130) ?hi130 ?hd130 (by kernel_rfl) (by kernel_rfl) (by kernel_rfl) ?hw130 ?hq130 (by assumption) ?r130
      case hi130 => (simp only [List.getElem?_toArray, List.getElem?_cons_succ, List.getElem?_cons_zero]; rfl)
      case hd130 => rfl
      case hw130 => rfl
      case hq130 => exact fun _ _ _ h => h
      simp only [List.set_cons_succ, List.set_cons_zero]
      refine take_at (i := 14) (d := 53) (oi := ?o131) (v := ?v131) ?hi131 ?hd131 (by kernel_rfl) (by kernel_rfl) (by kernel_rfl) ?hw131 ?hy131 ?hq131 (by assumption) ?r131
      case hi131 => (simp only [List.getElem?_toArray, List.getElem?_cons_succ, List.getElem?_cons_zero]; rfl)
      case hd131 => rfl
      case hw131 => rfl
      case hy131 => ((intro w hSw; (try dsimp only at hSw); go_simp) <;> (with_reducible rfl))
      case hq131 => exact fun _ _ _ h => h
      simp only [List.set_cons_succ, List.set_cons_zero]
      refine take_at (i := 15) (d := 54) (oi := ?o132) (v := ?v132) ?hi132 ?hd132 (by kernel_rfl) (by kernel_rfl) (by kernel_rfl) ?hw132 ?hy132 ?hq132 (by assumption) ?r132
      case hi132 => (simp only [List.getElem?_toArray, List.getElem?_cons_succ, List.getElem?_cons_zero]; rfl)
      case hd132 => rfl
      case hw132 => rfl
      case hy132 => ((intro w hSw; (try dsimp only at hSw); go_simp) <;> (with_reducible rfl))
      case hq132 => exact fun _ _ _ h => h
      simp only [List.set_cons_succ, List.set_cons_zero]
      refine take_at (i := 16) (d := 55) (oi := ?o133) (v := ?v133) ?hi133 ?hd133 (by kernel_rfl) (by kernel_rfl) (by kernel_rfl) ?hw133 ?hy133 ?hq133 (by assumption) ?r133
      case hi133 => (simp only [List.getElem?_toArray, List.getElem?_cons_succ, List.getElem?_cons_zero]; rfl)
      case hd133 => rfl
      case hw133 => rfl
      case hy133 => ((intro w hSw; (try dsimp only at hSw); go_simp) <;> (with_reducible rfl))
      case hq133 => exact fun _ _ _ h => h
      simp only [List.set_cons_succ, List.set_cons_zero]
      refine take_at (i := 17) (d := 56) (oi := ?o134) (v := ?v134) ?hi134 ?hd134 (by kernel_rfl) (by kernel_rfl) (by kernel_rfl) ?hw134 ?hy134 ?hq134 (by assumption) ?r134
      case hi134 => (simp only [List.getElem?_toArray, List.getElem?_cons_succ, List.getElem?_cons_zero]; rfl)
      case hd134 => rfl
      case hw134 => rfl
      case hy134 => ((intro w hSw; (try dsimp only at hSw); go_simp) <;> (with_reducible rfl))
      case hq134 => exact fun _ _ _ h => h
      simp only [List.set_cons_succ, List.set_cons_zero]
      refine take_at (i := 18) (d := 57) (oi := ?o135) (v := ?v135) ?hi135 ?hd135 (by kernel_rfl) (by kernel_rfl) (by kernel_rfl) ?hw135 ?hy135 ?hq135 (by assumption) ?r135
      case hi135 => (simp only [List.getElem?_toArray, List.getElem?_cons_succ, List.getElem?_cons_zero]; rfl)
      case hd135 => rfl
      case hw135 => rfl
      case hy135 => ((intro w hSw; (try dsimp only at hSw); obtain ⟨bx, by_⟩ := X0.out _ hSw; obtain ⟨k0, k1, k2⟩ := bx.cells; obtain ⟨m0, m1, m2⟩ := by_.cells; go_simp) <;> (with_reducible rfl))
      case hq135 => exact fun _ _ _ h => h
      simp only [List.set_cons_succ, List.set_cons_zero]
      refine call_at (i := 19) (d := 58) (oi := ?o136) (f := ?f136) (args := ?a136) ?hi136 ?hd136 (by kernel_rfl) ?hw136 ?he136 ?hc136
      case hi136 => (simp only [List.getElem?_toArray, List.getElem?_cons_succ, List.getElem?_cons_zero]; rfl)
      case hd136 => rfl
      case hw136 => rfl
      case he136 => (go_simp; constructor <;> with_reducible rfl)
      refine Calls.mono (rright_any x _) ?_
      rintro r wv ⟨rfl, hb1⟩
      rw [rb1]
      have kb : Below w6.heap.size w6 wv := hHeld.trans (hb1.mono hHeld.size)
      refine ⟨_, rfl, kb, fun hHeld => ?_⟩
      simp only [List.set_cons_succ, List.set_cons_zero]
      refine take_at (i := 20) (d := 59) (oi := ?o137) (v := ?v137) ?hi137 ?hd137 (by kernel_rfl) (by kernel_rfl) (by kernel_rfl) ?hw137 ?hy137 ?hq137 (by assumption) ?r137
      case hi137 => (simp only [List.getElem?_toArray, List.getElem?_cons_succ, List.getElem?_cons_zero]; rfl)
      case hd137 => rfl
      case hw137 => rfl
      case hy137 => ((intro w hSw; (try dsimp only at hSw); go_simp) <;> (with_reducible rfl))
      case hq137 => exact fun _ _ _ h => h
      simp only [List.set_cons_succ, List.set_cons_zero]
      refine take_at (i := 21) (d := 60) (oi := ?o138) (v := ?v138) ?hi138 ?hd138 (by kernel_rfl) (by kernel_rfl) (by kernel_rfl) ?hw138 ?hy138 ?hq138 (by assumption) ?r138
      case hi138 => (simp only [List.getElem?_toArray, List.getElem?_cons_succ, List.getElem?_cons_zero]; rfl)
      case hd138 => rfl
      case hw138 => rfl
      case hy138 => ((intro w hSw; (try dsimp only at hSw); go_simp) <;> (with_reducible rfl))
      case hq138 => exact fun _ _ _ h => h
      simp only [List.set_cons_succ, List.set_cons_zero]
      refine take_at (i := 22) (d := 61) (oi := ?o139) (v := ?v139) ?hi139 ?hd139 (by kernel_rfl) (by kernel_rfl) (by kernel_rfl) ?hw139 ?hy139 ?hq139 (by assumption) ?r139
      case hi139 => (simp only [List.getElem?_toArray, List.getElem?_cons_succ, List.getElem?_cons_zero]; rfl)
      case hd139 => rfl
      case hw139 => rfl
      case hy139 => ((intro w hSw; (try dsimp only at hSw); go_simp) <;> (with_reducible rfl))
      case hq139 => exact fun _ _ _ h => h
      simp only [List.set_cons_succ, List.set_cons_zero]
      refine take_at (i := 23) (d := 62) (oi := ?o140) (v := ?v140) ?hi140 ?hd140 (by kernel_rfl) (by kernel_rfl) (by kernel_rfl) ?hw140 ?hy140 ?hq140 (by assumption) ?r140
      case hi140 => (simp only [List.getElem?_toArray, List.getElem?_cons_succ, List.getElem?_cons_zero]; rfl)
      case hd140 => rfl
      case hw140 => rfl
      case hy140 => ((intro w hSw; (try dsimp only at hSw); go_simp) <;> (with_reducible rfl))
      case hq140 => exact fun _ _ _ h => h
      simp only [List.set_cons_succ, List.set_cons_zero]
      refine take_at (i := 24) (d := 63) (oi := ?o141) (v := ?v141) ?hi141 ?hd141 (by kernel_rfl) (by kernel_rfl) (by kernel_rfl) ?hw141 ?hy141 ?hq141 (by assumption) ?r141
      case hi141 => (simp only [List.getElem?_toArray, List.getElem?_cons_succ, List.getElem?_cons_zero]; rfl)
      case hd141 => rfl
      case hw141 => rfl
      case hy141 => ((intro w hSw; (try dsimp only at hSw); go_simp) <;> (with_reducible rfl))
      case hq141 => exact fun _ _ _ h => h
      simp only [List.set_cons_succ, List.set_cons_zero]
      refine take_at (i := 25) (d := 64) (oi := ?o142) (v := ?v142) ?hi142 ?hd142 (by kernel_rfl) (by kernel_rfl) (by kernel_rfl) ?hw142 ?hy142 ?hq142 (by assumption) ?r142
      case hi142 => (simp only [List.getElem?_toArray, List.getElem?_cons_succ, List.getElem?_cons_zero]; rfl)
      case hd142 => rfl
      case hw142 => rfl
      case hy142 => ((intro w hSw; (try dsimp only at hSw); obtain ⟨bx, by_⟩ := X0.out _ hSw; obtain ⟨k0, k1, k2⟩ := bx.cells; obtain ⟨m0, m1, m2⟩ := by_.cells; go_simp) <;> (with_reducible rfl))
      case hq142 => exact fun _ _ _ h => h
      simp only [List.set_cons_succ, List.set_cons_zero]
      refine call_at (i := 26) (d := 65) (oi := ?o143) (f := ?f143) (args := ?a143) ?hi143 ?hd143 (by kernel_rfl) ?hw143 ?he143 ?hc143
      case hi143 => (simp only [List.getElem?_toArray, List.getElem?_cons_succ, List.getElem?_cons_zero]; rfl)
      case hd143 => rfl
      case hw143 => rfl
      case he143 => (go_simp; constructor <;> with_reducible rfl)
      refine Calls.mono (rright_any y _) ?_
      rintro r wv ⟨rfl, hb1⟩
      rw [rb2]
      have kb : Below w6.heap.size w6 wv := hHeld.trans (hb1.mono hHeld.size)
      refine ⟨_, rfl, kb, fun hHeld => ?_⟩
      simp only [List.set_cons_succ, List.set_cons_zero]
      refine take_at (i := 27) (d := 66) (oi := ?o144) (v := ?v144) ?hi144 ?hd144 (by kernel_rfl) (by kernel_rfl) (by kernel_rfl) ?hw144 ?hy144 ?hq144 (by assumption) ?r144
      case hi144 => (simp only [List.getElem?_toArray, List.getElem?_cons_succ, List.getElem?_cons_zero]; rfl)
      case hd144 => rfl
      case hw144 => rfl
      case hy144 => ((intro w hSw; (try dsimp only at hSw); go_simp) <;> (with_reducible rfl))
      case hq144 => exact fun _ _ _ h => h
      simp only [List.set_cons_succ, List.set_cons_zero]
      refine take_at (i := 28) (d := 67) (oi := ?o145) (v := ?v145) ?hi145 ?hd145 (by kernel_rfl) (by kernel_rfl) (by kernel_rfl) ?hw145 ?hy145 ?hq145 (by assumption) ?r145
      case hi145 => (simp only [List.getElem?_toArray, List.getElem?_cons_succ, List.getElem?_cons_zero]; rfl)
      case hd145 => rfl
      case hw145 => rfl
      case hy145 => ((intro w hSw; (try dsimp only at hSw); go_simp) <;> (with_reducible rfl))
      case hq145 => exact fun _ _ _ h => h
      simp only [List.set_cons_succ, List.set_cons_zero]
      refine wpAnyH_done (by kernel_rfl) ?_ _
      by_cases hf : IdxP first
      · have q30 : (e3 == 0) = true := by rw [(HQ.out.2.2.1.1 hf).2]; rfl
        have f1 : (1 : Int) ≤ first := hf.1
        have f2 : first ≤ (1073741824 : Int) := hf.2
        by_cases ho : IdxP other
        · have q40 : (e4 == 0) = true := by rw [(HQ.out.2.2.2.1 ho).2]; rfl
          by_cases heq : first = other
          · have q5 : (first == other) = true := by simpa using heq
            have Hs := Lib.hid (show Cr.eqB L3 L4 = true from Cr.eqB_true (by rw [(HQ.out.2.2.1.1 hf).1, (HQ.out.2.2.2.1 ho).1, heq]))
            clear hf ho heq
            go_wp2_with fail
            have sm := same_any A3 A4 q3 q4 c3 c4 L3 L4 _ (HR.out.2.2.1.on hHeld hHeld.size) (HR.out.2.2.2.1.on hHeld hHeld.size) HY.out.2.2.1 HY.out.2.2.2
            rw [Hs.out] at sm
            refine Calls.mono sm ?_
            rintro e w9 ⟨rfl, rfl⟩
            clear sm
            go_wp2_with fail
            refine Calls.mono (wakes_true _ (HT.out.on (HR.out.2.2.2.2.trans (hHeld.mono HR.out.2.2.2.2.size)))) ?_
            rintro e w9 ⟨rfl, b9⟩
            go_wp2_with fail
            go_ret
            exact ⟨rfl, HR.out.2.2.2.2.trans ((hHeld.trans (b9.mono hHeld.size)).mono HR.out.2.2.2.2.size)⟩
          · have q5 : (first == other) = false := by simpa using heq
            have Hs := Lib.hid (show Cr.eqB L3 L4 = false from by
              cases h : Cr.eqB L3 L4
              · rfl
              · have h1 := Cr.eqB_iff.1 h
                rw [(HQ.out.2.2.1.1 hf).1, (HQ.out.2.2.2.1 ho).1] at h1
                exact absurd (headL_inj hf ho h1) heq)
            clear hf ho heq
            go_wp2_with fail
            have sm := same_any A3 A4 q3 q4 c3 c4 L3 L4 _ (HR.out.2.2.1.on hHeld hHeld.size) (HR.out.2.2.2.1.on hHeld hHeld.size) HY.out.2.2.1 HY.out.2.2.2
            rw [Hs.out] at sm
            refine Calls.mono sm ?_
            rintro e w9 ⟨rfl, rfl⟩
            clear sm
            go_wp2_with fail
            refine Calls.mono (wakes_true _ (HT.out.on (HR.out.2.2.2.2.trans (hHeld.mono HR.out.2.2.2.2.size)))) ?_
            rintro e w9 ⟨rfl, b9⟩
            go_wp2_with fail
            go_ret
            exact ⟨rfl, HR.out.2.2.2.2.trans ((hHeld.trans (b9.mono hHeld.size)).mono HR.out.2.2.2.2.size)⟩
        · have q40 : (e4 == 0) = false := by rw [HQ.out.2.2.2.2 ho]; rfl
          clear hf ho
          go_wp2_with fail
          refine Calls.mono (wakes_true _ (HT.out.on (HR.out.2.2.2.2.trans (hHeld.mono HR.out.2.2.2.2.size)))) ?_
          rintro e w9 ⟨rfl, b9⟩
          go_wp2_with fail
          go_ret
          exact ⟨rfl, HR.out.2.2.2.2.trans ((hHeld.trans (b9.mono hHeld.size)).mono HR.out.2.2.2.2.size)⟩
      · have q30 : (e3 == 0) = false := by rw [HQ.out.2.2.1.2 hf]; rfl
        by_cases f1 : (1 : Int) ≤ first
        · have f2 : (1073741824 : Int) < first := by unfold IdxP at hf; omega
          have f3 : ¬ first ≤ (1073741824 : Int) := by omega
          clear hf
          go_wp2_with fail
          refine Calls.mono (wakes_true _ (HT.out.on (HR.out.2.2.2.2.trans (hHeld.mono HR.out.2.2.2.2.size)))) ?_
          rintro e w9 ⟨rfl, b9⟩
          go_wp2_with fail
          go_ret
          exact ⟨rfl, HR.out.2.2.2.2.trans ((hHeld.trans (b9.mono hHeld.size)).mono HR.out.2.2.2.2.size)⟩
        · have f2 : first < (1 : Int) := by omega
          clear hf
          go_wp2_with fail
          refine Calls.mono (wakes_true _ (HT.out.on (HR.out.2.2.2.2.trans (hHeld.mono HR.out.2.2.2.2.size)))) ?_
          rintro e w9 ⟨rfl, b9⟩
          go_wp2_with fail
          go_ret
          exact ⟨rfl, HR.out.2.2.2.2.trans ((hHeld.trans (b9.mono hHeld.size)).mono HR.out.2.2.2.2.size)⟩
end Go.Proofs.YtlblfpfdebmcgaaDoor
