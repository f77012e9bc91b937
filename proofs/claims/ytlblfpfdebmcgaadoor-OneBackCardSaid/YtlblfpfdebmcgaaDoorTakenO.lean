/-
  moultref07.taken: its contract.
-/
import Derived.Test.YtlblfpfdebmcgaaDoorRecR
namespace Go.Proofs.YtlblfpfdebmcgaaDoor
open Go.RowKit
set_option linter.unusedVariables false
set_option linter.unusedSimpArgs false

theorem BoxE.other {W : World} {y z : Nat} {x : EnP} (h : BoxE W y x) (hne : y ≠ z) (i : Nat) (u : Value) : BoxE (W.setCell ⟨z, i, none⟩ u) y x :=
  (Below.heap_setCell _ _ _ y (by simpa using hne)).trans h
theorem longP_first {b : List Int} (h : 5 ≤ b.length) : (Nu.longP b).1 = (Nu.longP (b.take 5)).1 ∧ (Nu.longP b).2.2 = (Nu.longP (b.take 5)).2.2 ∧ ((Nu.longP b).2.2 = 0 → (Nu.longP b).2.1 = b.drop 5) := by
  have h5 : (b.take 5).length = 5 := by rw [List.length_take]; omega
  have e5 : (b.take 5).take 5 = b.take 5 := by rw [List.take_take]; rfl
  by_cases hs : 1073741824 < Nu.sumL (b.take 5)
  · rw [Nu.longP_big h hs, Nu.longP_big (l := b.take 5) (by omega) (by rw [e5]; exact hs)]
    exact ⟨rfl, rfl, fun h => by cases h⟩
  · rw [Nu.longP_ok h (by omega), Nu.longP_ok (l := b.take 5) (by omega) (by rw [e5]; omega), e5]
    exact ⟨rfl, rfl, fun _ => rfl⟩
/-- moultref01.TakeLong of a record's text. -/
theorem rtlong_any (A : Option Addr) (n c : Nat) (l : List Int) (w : World) {x e : Int} (hr : Rd w w.heap.size .u8 A n l) (hb : Byt l) (h5 : 5 ≤ n) (hnc : n ≤ c) (hn : n ≤ 1048576) (hx : (Nu.longP (l.take 5)).1 = x) (he : (Nu.longP (l.take 5)).2.2 = e) :
    Calls Tryd.prog 29 #[.slice A n c] w fun r w' => (∃ A' n' c', r = .returned (.tuple #[.int .i64 x, .slice A' n' c', .int .i64 e]) ∧ (e = 0 → n' = n - 5 ∧ n' ≤ c' ∧ Rd w' w'.heap.size .u8 A' n' (l.drop 5))) ∧ Below w.heap.size w w' := by
  subst hx he
  obtain ⟨q1, q2, q3⟩ := longP_first (b := l) (by rw [hr.1]; exact h5)
  refine (Nu.rlong_any A n c l w hr (nu_byt hb) hnc (by omega)).mono ?_
  rintro r w' ⟨⟨v, rfl, A', c', rfl, hc, hrd⟩, hb⟩
  refine ⟨⟨A', _, c', by rw [q1, q2], fun h0 => ?_⟩, hb⟩
  rw [← q2] at h0
  rw [q3 h0] at hc hrd ⊢
  exact ⟨by rw [List.length_drop, hr.1], hc, hrd⟩

set_option maxRecDepth 100000 in
set_option maxHeartbeats 2000000 in
theorem taken_any (A : Option Addr) (c : Nat) (l : List Int) (w : World) (hr : Rd w w.heap.size .u8 A 15 l) (hb : Byt l) (hnc : 15 ≤ c) :
    Calls Tryd.prog 30 #[.slice A 15 c] w fun e w' => (∃ x : EnP, e = .returned (.tuple #[x.v, .bool (recOf l).isSome]) ∧ ∀ y, recOf l = some y → x = y) ∧ Below w.heap.size w w' := by
  have hl15 := hr.1
  have hlt : l.take 15 = l := List.take_of_length_le (by omega)
  go_enter Tryd.func30, Tryd.ntmps30
  go_wp2_with fail
  obtain ⟨z, hz⟩ : ∃ z, z = w.heap.size := ⟨_, rfl⟩
  obtain ⟨w0, hw0⟩ : ∃ w0, w0 = w.alloc (.cells #[.int .i64 0, .int .i64 0, .int .i64 0] 40) := ⟨_, rfl⟩
  have hB0 : Below w.heap.size w w0 := by rw [hw0]; exact below_al (below_d0 w) _
  have b0 : BoxE w0 z ⟨0, 0, 0⟩ := by rw [hw0, hz]; exact BoxE.new w ⟨0, 0, 0⟩
  rw [← hw0, ← hz]
  have Hz := Lib.hid (show w.heap.size ≤ z ∧ z = w.heap.size by omega)
  clear hw0 hz
  refine (Cr.rtake_in _ 15 c l w0 (hr.on hB0 hB0.size) hb (by omega) (by omega)).mono ?_
  rintro e w1 ⟨hP, hb1⟩
  have b1 := b0.below hb1
  have hB1 := hB0.trans (hb1.mono hB0.size)
  rcases hP with ⟨hno, rfl⟩ | ⟨hok, At, ct, rfl, hct, hrt⟩
  · have HR := Lib.hid (show recOf l = none from recOf_sum (by rw [hlt]; exact hno))
    have f0 := b1.frozen 0
    have f1 := b1.frozen 1
    have f2 := b1.frozen 2
    obtain ⟨d0, d1, d2⟩ := b1.cells
    have H := Lib.hid (⟨b1, hB1⟩ : _ ∧ _)
    clear b0 hB0 hb1 b1 hB1 hno hr hlt
    go_wp2_with fail
    have b3 := ((H.out.1.s0 0).s1 0).s2 0
    have hz := Hz.out.1
    have hB3 := ((H.out.2.setCell (p := ⟨z, 0, none⟩) hz (.int .i64 0)).setCell (p := ⟨z, 1, none⟩) hz (.int .i64 0)).setCell (p := ⟨z, 2, none⟩) hz (.int .i64 0)
    clear d0 d1 d2
    obtain ⟨d0, d1, d2⟩ := b3.cells
    exact bodyPost_ret (v := .tuple #[.agg #[.int .i64 0, .int .i64 0, .int .i64 0], .bool false]) (by simp [results, Tryd.results30, go_sem, d0, d1, d2]) rfl ⟨⟨⟨0, 0, 0⟩, by rw [HR.out]; rfl, fun yy hyy => by rw [HR.out] at hyy; cases hyy⟩, hB3⟩
  · have e11 : l.length - 4 = 11 := by omega
    rw [e11] at hct hrt ⊢
    have hb11 := hb.take 11
    obtain ⟨q, hq⟩ : ∃ q, (l.take 11)[5]?.getD 0 = q := ⟨_, rfl⟩
    have hq2 := hb11.at_ 5
    obtain ⟨p, hp⟩ : ∃ p, (Nu.longP ((l.take 11).take 5)).1 = p := ⟨_, rfl⟩
    obtain ⟨e1, he1⟩ : ∃ e1, (Nu.longP ((l.take 11).take 5)).2.2 = e1 := ⟨_, rfl⟩
    obtain ⟨v, hv⟩ : ∃ v, (Nu.longP ((l.take 11).drop 6)).1 = v := ⟨_, rfl⟩
    obtain ⟨e2, he2⟩ : ∃ e2, (Nu.longP ((l.take 11).drop 6)).2.2 = e2 := ⟨_, rfl⟩
    rw [hq] at hq2
    obtain ⟨hq3, hq4⟩ := hq2
    have hrec : recOf l = if e1 = 0 ∧ e2 = 0 ∧ RightP ⟨p, q, v⟩ then some ⟨p, q, v⟩ else none := by
      unfold recOf
      rw [hq, hp, he1, hv, he2, hlt]
      by_cases h : e1 = 0 ∧ e2 = 0 ∧ RightP ⟨p, q, v⟩
      · rw [if_pos h, if_pos ⟨by omega, hok, h⟩]
      · rw [if_neg h, if_neg (fun h' => h h'.2.2)]
    have H1 := Lib.hid (⟨hrt, hb11, hp, he1, hv, he2, b1, hB1, hct, hq⟩ : _ ∧ _ ∧ _ ∧ _ ∧ _ ∧ _ ∧ _ ∧ _ ∧ _ ∧ _)
    have Hrec := Lib.hid hrec
    clear hrt hb11 hp he1 hv he2 b1 hB1 hrec hb1 hok hq b0 hB0 hr hlt hct e11
    go_wp2_with fail
    refine (rtlong_any _ 11 _ _ w1 H1.out.1 H1.out.2.1 (by omega) H1.out.2.2.2.2.2.2.2.2.1 (by omega) H1.out.2.2.1 H1.out.2.2.2.1).mono ?_
    rintro r w2 ⟨⟨A', n', c', rfl, hrest⟩, hb2⟩
    have b2 := H1.out.2.2.2.2.2.2.1.below hb2
    have hB2 := H1.out.2.2.2.2.2.2.2.1.trans (hb2.mono H1.out.2.2.2.2.2.2.2.1.size)
    by_cases h1 : e1 = 0
    · subst h1
      obtain ⟨rfl, hcc, hr2⟩ := hrest rfl
      obtain ⟨bt, ot, rfl, hbt, hcellt⟩ := hr2.at_ (by omega)
      have c5 := hcellt 0 (by omega)
      rw [Nat.add_zero, List.getElem?_drop, H1.out.2.2.2.2.2.2.2.2.2] at c5
      have rB : Rd w2 w2.heap.size .u8 (some ⟨bt, ot + 1, none⟩) 5 ((l.take 11).drop 6) := by
        have h := Nu.Rd.cut_at (m := 1) hr2 (by omega)
        rw [List.drop_drop] at h
        exact h
      have H2 := Lib.hid (⟨b2, hB2, rB, H1.out.2.1.drop 6⟩ : _ ∧ _ ∧ _ ∧ _)
      clear hrest hr2 hcellt b2 hB2 rB hb2
      go_wp2_with fail
      refine (rtlong_any _ 5 _ _ w2 H2.out.2.2.1 H2.out.2.2.2 (by omega) (by omega) (by omega) (x := v) (e := e2) (by rw [List.take_of_length_le (by rw [H2.out.2.2.1.1]; exact Nat.le_refl _)]; exact H1.out.2.2.2.2.1) (by rw [List.take_of_length_le (by rw [H2.out.2.2.1.1]; exact Nat.le_refl _)]; exact H1.out.2.2.2.2.2.1)).mono ?_
      rintro r w3 ⟨⟨A'', n'', c'', rfl, _⟩, hb3⟩
      have c5 := (hb3.cell (p := ⟨bt, ot, none⟩) hbt).trans c5
      have b3 := H2.out.1.below hb3
      have hB3 := H2.out.2.1.trans (hb3.mono H2.out.2.1.size)
      have Hyz := Lib.hid (show w3.heap.size ≠ z by have := b3.lt; omega)
      obtain ⟨y, hy⟩ : ∃ y, y = w3.heap.size := ⟨_, rfl⟩
      rw [← hy] at Hyz
      obtain ⟨w8, hw8⟩ : ∃ w8, w8 = w3.alloc (.cells #[.int .i64 p, .int .i64 q, .int .i64 v] 40) := ⟨_, rfl⟩
      have by8 : BoxE w8 y ⟨p, q, v⟩ := by rw [hw8, hy]; exact BoxE.new w3 ⟨p, q, v⟩
      have H8 := Lib.hid (⟨by8, b3.below (W' := w8) (by rw [hw8]; exact (Below.refl _ _).alloc (Nat.le_refl _) _), (by rw [hw8]; exact hB3.alloc hB3.size _ : Below w.heap.size w w8), hw8, hy⟩ : _ ∧ _ ∧ _ ∧ _ ∧ _)
      clear by8 b3 hB3 hb3 hw8 hy
      go_wp2_with fail
      rw [← H8.out.2.2.2.1, ← H8.out.2.2.2.2]
      have H8' := H8
      replace H8 := Lib.hid (⟨H8'.out.1, H8'.out.2.1, H8'.out.2.2.1⟩ : _ ∧ _ ∧ _)
      clear H8' c5
      by_cases h2 : e2 = 0
      · subst h2
        by_cases hR : RightP ⟨p, q, v⟩
        · have HR := Lib.hid (Hrec.out.trans (if_pos (by first | exact ⟨rfl, rfl, hR⟩ | exact ⟨trivial, trivial, hR⟩ | simpa using hR)))
          have e1 := rightB_iff.2 hR
          clear hR
          refine wp_region_held_drew (S := (fun W => BoxE W y ⟨p, q, v⟩ ∧ (∃ x0, BoxE W z x0) ∧ Below w.heap.size w W)) (by kernel_rfl) ⟨H8.out.1.below ((Below.refl _ _).drew), ⟨_, H8.out.2.1.below ((Below.refl _ _).drew)⟩, H8.out.2.2.drew⟩ (fun hHeld => ?_)
          refine take_at (i := 0) (d := 53) (oi := ?o1) (v := ?v1) ?hi1 ?hd1 (by kernel_rfl) (by kernel_rfl) (by kernel_rfl) ?hw1 ?hy1 ?hq1 (by assumption) ?r1
          case hi1 => (simp only [List.getElem?_toArray, List.getElem?_cons_zero]; rfl)
          case hd1 => rfl
          case hw1 => rfl
          case hy1 => ((intro w hSw; (try dsimp only at hSw); obtain ⟨qc0, qc1, qc2⟩ := hSw.1.cells; go_simp) <;> (with_reducible rfl))
          case hq1 => exact fun _ _ _ h => h
          simp only [List.set_cons_succ, List.set_cons_zero]
          refine take_at (i := 1) (d := 54) (oi := ?o2) (v := ?v2) ?hi2 ?hd2 (by kernel_rfl) (by kernel_rfl) (by kernel_rfl) ?hw2 ?hy2 ?hq2 (by assumption) ?r2
          case hi2 => (simp only [List.getElem?_toArray, List.getElem?_cons_succ, List.getElem?_cons_zero]; rfl)
          case hd2 => rfl
          case hw2 => rfl
          case hy2 => ((intro w hSw; (try dsimp only at hSw); go_simp) <;> (with_reducible rfl))
          case hq2 => exact fun _ _ _ h => h
          simp only [List.set_cons_succ, List.set_cons_zero]
          refine take_at (i := 2) (d := 55) (oi := ?o3) (v := ?v3) ?hi3 ?hd3 (by kernel_rfl) (by kernel_rfl) (by kernel_rfl) ?hw3 ?hy3 ?hq3 (by assumption) ?r3
          case hi3 => (simp only [List.getElem?_toArray, List.getElem?_cons_succ, List.getElem?_cons_zero]; rfl)
          case hd3 => rfl
          case hw3 => rfl
          case hy3 => ((intro w hSw; (try dsimp only at hSw); go_simp) <;> (with_reducible rfl))
          case hq3 => exact fun _ _ _ h => h
          simp only [List.set_cons_succ, List.set_cons_zero]
          refine take_at (i := 3) (d := 56) (oi := ?o4) (v := ?v4) ?hi4 ?hd4 (by kernel_rfl) (by kernel_rfl) (by kernel_rfl) ?hw4 ?hy4 ?hq4 (by assumption) ?r4
          case hi4 => (simp only [List.getElem?_toArray, List.getElem?_cons_succ, List.getElem?_cons_zero]; rfl)
          case hd4 => rfl
          case hw4 => rfl
          case hy4 => ((intro w hSw; (try dsimp only at hSw); go_simp) <;> (with_reducible rfl))
          case hq4 => exact fun _ _ _ h => h
          simp only [List.set_cons_succ, List.set_cons_zero]
          refine take_at (i := 4) (d := 57) (oi := ?o5) (v := ?v5) ?hi5 ?hd5 (by kernel_rfl) (by kernel_rfl) (by kernel_rfl) ?hw5 ?hy5 ?hq5 (by assumption) ?r5
          case hi5 => (simp only [List.getElem?_toArray, List.getElem?_cons_succ, List.getElem?_cons_zero]; rfl)
          case hd5 => rfl
          case hw5 => rfl
          case hy5 => ((intro w hSw; (try dsimp only at hSw); obtain ⟨qc0, qc1, qc2⟩ := hSw.1.cells; go_simp) <;> (with_reducible rfl))
          case hq5 => exact fun _ _ _ h => h
          simp only [List.set_cons_succ, List.set_cons_zero]
          refine call_at (i := 5) (d := 58) (oi := ?o6) (f := ?f6) (args := ?a6) ?hi6 ?hd6 (by kernel_rfl) ?hw6 ?he6 ?hc6
          case hi6 => (simp only [List.getElem?_toArray, List.getElem?_cons_succ, List.getElem?_cons_zero]; rfl)
          case hd6 => rfl
          case hw6 => rfl
          case he6 => (go_simp; constructor <;> with_reducible rfl)
          refine (rright_any ⟨p, q, v⟩ _).mono ?_
          rintro r w9 ⟨rfl, hb9⟩
          rw [e1]
          have hS9 : BoxE w9 y ⟨p, q, v⟩ ∧ (∃ x0, BoxE w9 z x0) ∧ Below w.heap.size w w9 := ⟨hHeld.1.below hb9, hHeld.2.1.imp (fun _ h => h.below hb9), hHeld.2.2.trans (hb9.mono hHeld.2.2.size)⟩
          clear hHeld
          refine ⟨_, rfl, hS9, fun hHeld => ?_⟩
          simp only [List.set_cons_succ, List.set_cons_zero]
          refine take_at (i := 6) (d := 59) (oi := ?o7) (v := ?v7) ?hi7 ?hd7 (by kernel_rfl) (by kernel_rfl) (by kernel_rfl) ?hw7 ?hy7 ?hq7 (by assumption) ?r7
          case hi7 => (simp only [List.getElem?_toArray, List.getElem?_cons_succ, List.getElem?_cons_zero]; rfl)
          case hd7 => rfl
          case hw7 => rfl
          case hy7 => ((intro w hSw; (try dsimp only at hSw); go_simp) <;> (with_reducible rfl))
          case hq7 => exact fun _ _ _ h => h
          simp only [List.set_cons_succ, List.set_cons_zero]
          obtain ⟨⟨x0, hz0⟩, hB9⟩ := hHeld.2
          have l0 := hz0.frozen 0
          have l1 := hz0.frozen 1
          have l2 := hz0.frozen 2
          obtain ⟨z0, z1, z2⟩ := hz0.cells
          have bz := ((hz0.s0 p).s1 q).s2 v
          have hzw := Hz.out.1
          have hB10 := ((hB9.setCell (p := ⟨z, 0, none⟩) hzw (.int .i64 p)).setCell (p := ⟨z, 1, none⟩) hzw (.int .i64 q)).setCell (p := ⟨z, 2, none⟩) hzw (.int .i64 v)
          have by_ := (((show BoxE w9 y ⟨p, q, v⟩ from hHeld.1).other Hyz.out 0 (.int .i64 p)).other Hyz.out 1 (.int .i64 q)).other Hyz.out 2 (.int .i64 v)
          refine wpAnyH_ready (rs := [7]) (by kernel_rfl) (by simp) ?_
          refine br_store (i := 7) (oi := ?o8) (w' := (((w9.setCell ⟨z, 0, none⟩ (.int .i64 p)).setCell ⟨z, 1, none⟩ (.int .i64 q)).setCell ⟨z, 2, none⟩ (.int .i64 v))) ?hi8 ?hd8 ?hw8 ?he8 ⟨by_, ⟨_, bz⟩, hB10⟩ ?hc8
          case hi8 => (simp only [List.getElem?_toArray, List.getElem?_cons_succ, List.getElem?_cons_zero]; rfl)
          case hd8 => rfl
          case hw8 => rfl
          case he8 => (first | (go_simp; done) | (go_simp; rfl))
          intro hHeld
          refine take_at (i := 8) (d := 3) (oi := ?o9) (v := ?v9) ?hi9 ?hd9 (by kernel_rfl) (by kernel_rfl) (by kernel_rfl) ?hw9 ?hy9 ?hq9 (by assumption) ?r9
          case hi9 => (simp only [List.getElem?_toArray, List.getElem?_cons_succ, List.getElem?_cons_zero]; rfl)
          case hd9 => rfl
          case hw9 => rfl
          case hy9 => ((intro w hSw; (try dsimp only at hSw); go_simp) <;> (with_reducible rfl))
          case hq9 => exact fun _ _ _ h => h
          simp only [List.set_cons_succ, List.set_cons_zero]
          refine wpAnyH_done (by kernel_rfl) ?_ _
          clear l0 l1 l2 z0 z1 z2
          obtain ⟨z0, z1, z2⟩ := bz.cells
          have HF := Lib.hid (⟨hB10, z0⟩ : _ ∧ _)
          go_wp2_with fail
          exact bodyPost_ret (v := .tuple #[.agg #[.int .i64 p, .int .i64 q, .int .i64 v], .bool true]) (by simp [results, Tryd.results30, go_sem, z0, z1, z2]) rfl ⟨⟨⟨p, q, v⟩, by rw [HR.out]; rfl, fun yy hyy => by rw [HR.out] at hyy; cases hyy; rfl⟩, HF.out.1⟩
        · have HR := Lib.hid (Hrec.out.trans (if_neg (fun h => hR h.2.2)))
          have e1 := rightB_not.2 hR
          clear hR
          refine wp_region_held_drew (S := (fun W => BoxE W y ⟨p, q, v⟩ ∧ (∃ x0, BoxE W z x0) ∧ Below w.heap.size w W)) (by kernel_rfl) ⟨H8.out.1.below ((Below.refl _ _).drew), ⟨_, H8.out.2.1.below ((Below.refl _ _).drew)⟩, H8.out.2.2.drew⟩ (fun hHeld => ?_)
          refine take_at (i := 0) (d := 53) (oi := ?o10) (v := ?v10) ?hi10 ?hd10 (by kernel_rfl) (by kernel_rfl) (by kernel_rfl) ?hw10 ?hy10 ?hq10 (by assumption) ?r10
          case hi10 => (simp only [List.getElem?_toArray, List.getElem?_cons_zero]; rfl)
          case hd10 => rfl
          case hw10 => rfl
          case hy10 => ((intro w hSw; (try dsimp only at hSw); obtain ⟨qc0, qc1, qc2⟩ := hSw.1.cells; go_simp) <;> (with_reducible rfl))
          case hq10 => exact fun _ _ _ h => h
          simp only [List.set_cons_succ, List.set_cons_zero]
          refine take_at (i := 1) (d := 54) (oi := ?o11) (v := ?v11) ?hi11 ?hd11 (by kernel_rfl) (by kernel_rfl) (by kernel_rfl) ?hw11 ?hy11 ?hq11 (by assumption) ?r11
          case hi11 => (simp only [List.getElem?_toArray, List.getElem?_cons_succ, List.getElem?_cons_zero]; rfl)
          case hd11 => rfl
          case hw11 => rfl
          case hy11 => ((intro w hSw; (try dsimp only at hSw); go_simp) <;> (with_reducible rfl))
          case hq11 => exact fun _ _ _ h => h
          simp only [List.set_cons_succ, List.set_cons_zero]
          refine take_at (i := 2) (d := 55) (oi := ?o12) (v := ?v12) ?hi12 ?hd12 (by kernel_rfl) (by kernel_rfl) (by kernel_rfl) ?hw12 ?hy12 ?hq12 (by assumption) ?r12
          case hi12 => (simp only [List.getElem?_toArray, List.getElem?_cons_succ, List.getElem?_cons_zero]; rfl)
          case hd12 => rfl
          case hw12 => rfl
          case hy12 => ((intro w hSw; (try dsimp only at hSw); go_simp) <;> (with_reducible rfl))
          case hq12 => exact fun _ _ _ h => h
          simp only [List.set_cons_succ, List.set_cons_zero]
          refine take_at (i := 3) (d := 56) (oi := ?o13) (v := ?v13) ?hi13 ?hd13 (by kernel_rfl) (by kernel_rfl) (by kernel_rfl) ?hw13 ?hy13 ?hq13 (by assumption) ?r13
          case hi13 => (simp only [List.getElem?_toArray, List.getElem?_cons_succ, List.getElem?_cons_zero]; rfl)
          case hd13 => rfl
          case hw13 => rfl
          case hy13 => ((intro w hSw; (try dsimp only at hSw); go_simp) <;> (with_reducible rfl))
          case hq13 => exact fun _ _ _ h => h
          simp only [List.set_cons_succ, List.set_cons_zero]
          refine take_at (i := 4) (d := 57) (oi := ?o14) (v := ?v14) ?hi14 ?hd14 (by kernel_rfl) (by kernel_rfl) (by kernel_rfl) ?hw14 ?hy14 ?hq14 (by assumption) ?r14
          case hi14 => (simp only [List.getElem?_toArray, List.getElem?_cons_succ, List.getElem?_cons_zero]; rfl)
          case hd14 => rfl
          case hw14 => rfl
          case hy14 => ((intro w hSw; (try dsimp only at hSw); obtain ⟨qc0, qc1, qc2⟩ := hSw.1.cells; go_simp) <;> (with_reducible rfl))
          case hq14 => exact fun _ _ _ h => h
          simp only [List.set_cons_succ, List.set_cons_zero]
          refine call_at (i := 5) (d := 58) (oi := ?o15) (f := ?f15) (args := ?a15) ?hi15 ?hd15 (by kernel_rfl) ?hw15 ?he15 ?hc15
          case hi15 => (simp only [List.getElem?_toArray, List.getElem?_cons_succ, List.getElem?_cons_zero]; rfl)
          case hd15 => rfl
          case hw15 => rfl
          case he15 => (go_simp; constructor <;> with_reducible rfl)
          refine (rright_any ⟨p, q, v⟩ _).mono ?_
          rintro r w9 ⟨rfl, hb9⟩
          rw [e1]
          have hS9 : BoxE w9 y ⟨p, q, v⟩ ∧ (∃ x0, BoxE w9 z x0) ∧ Below w.heap.size w w9 := ⟨hHeld.1.below hb9, hHeld.2.1.imp (fun _ h => h.below hb9), hHeld.2.2.trans (hb9.mono hHeld.2.2.size)⟩
          clear hHeld
          refine ⟨_, rfl, hS9, fun hHeld => ?_⟩
          simp only [List.set_cons_succ, List.set_cons_zero]
          refine take_at (i := 6) (d := 59) (oi := ?o16) (v := ?v16) ?hi16 ?hd16 (by kernel_rfl) (by kernel_rfl) (by kernel_rfl) ?hw16 ?hy16 ?hq16 (by assumption) ?r16
          case hi16 => (simp only [List.getElem?_toArray, List.getElem?_cons_succ, List.getElem?_cons_zero]; rfl)
          case hd16 => rfl
          case hw16 => rfl
          case hy16 => ((intro w hSw; (try dsimp only at hSw); go_simp) <;> (with_reducible rfl))
          case hq16 => exact fun _ _ _ h => h
          simp only [List.set_cons_succ, List.set_cons_zero]
          obtain ⟨⟨x0, hz0⟩, hB9⟩ := hHeld.2
          have l0 := hz0.frozen 0
          have l1 := hz0.frozen 1
          have l2 := hz0.frozen 2
          obtain ⟨z0, z1, z2⟩ := hz0.cells
          have bz := ((hz0.s0 p).s1 q).s2 v
          have hzw := Hz.out.1
          have hB10 := ((hB9.setCell (p := ⟨z, 0, none⟩) hzw (.int .i64 p)).setCell (p := ⟨z, 1, none⟩) hzw (.int .i64 q)).setCell (p := ⟨z, 2, none⟩) hzw (.int .i64 v)
          have by_ := (((show BoxE w9 y ⟨p, q, v⟩ from hHeld.1).other Hyz.out 0 (.int .i64 p)).other Hyz.out 1 (.int .i64 q)).other Hyz.out 2 (.int .i64 v)
          refine wpAnyH_ready (rs := [7]) (by kernel_rfl) (by simp) ?_
          refine br_store (i := 7) (oi := ?o17) (w' := (((w9.setCell ⟨z, 0, none⟩ (.int .i64 p)).setCell ⟨z, 1, none⟩ (.int .i64 q)).setCell ⟨z, 2, none⟩ (.int .i64 v))) ?hi17 ?hd17 ?hw17 ?he17 ⟨by_, ⟨_, bz⟩, hB10⟩ ?hc17
          case hi17 => (simp only [List.getElem?_toArray, List.getElem?_cons_succ, List.getElem?_cons_zero]; rfl)
          case hd17 => rfl
          case hw17 => rfl
          case he17 => (first | (go_simp; done) | (go_simp; rfl))
          intro hHeld
          refine take_at (i := 8) (d := 3) (oi := ?o18) (v := ?v18) ?hi18 ?hd18 (by kernel_rfl) (by kernel_rfl) (by kernel_rfl) ?hw18 ?hy18 ?hq18 (by assumption) ?r18
          case hi18 => (simp only [List.getElem?_toArray, List.getElem?_cons_succ, List.getElem?_cons_zero]; rfl)
          case hd18 => rfl
          case hw18 => rfl
          case hy18 => ((intro w hSw; (try dsimp only at hSw); go_simp) <;> (with_reducible rfl))
          case hq18 => exact fun _ _ _ h => h
          simp only [List.set_cons_succ, List.set_cons_zero]
          refine wpAnyH_done (by kernel_rfl) ?_ _
          clear l0 l1 l2 z0 z1 z2
          obtain ⟨z0, z1, z2⟩ := bz.cells
          have HF := Lib.hid (⟨hB10, z0⟩ : _ ∧ _)
          go_wp2_with fail
          exact bodyPost_ret (v := .tuple #[.agg #[.int .i64 p, .int .i64 q, .int .i64 v], .bool false]) (by simp [results, Tryd.results30, go_sem, z0, z1, z2]) rfl ⟨⟨⟨p, q, v⟩, by rw [HR.out]; rfl, fun yy hyy => by rw [HR.out] at hyy; cases hyy⟩, HF.out.1⟩
      · have HR := Lib.hid (Hrec.out.trans (if_neg (fun h => h2 h.2.1)))
        have q2 : (e2 == 0) = false := by simpa using h2
        clear h2
        refine wp_region_held_drew (S := (fun W => BoxE W y ⟨p, q, v⟩ ∧ (∃ x0, BoxE W z x0) ∧ Below w.heap.size w W)) (by kernel_rfl) ⟨H8.out.1.below ((Below.refl _ _).drew), ⟨_, H8.out.2.1.below ((Below.refl _ _).drew)⟩, H8.out.2.2.drew⟩ (fun hHeld => ?_)
        refine take_at (i := 0) (d := 53) (oi := ?o19) (v := ?v19) ?hi19 ?hd19 (by kernel_rfl) (by kernel_rfl) (by kernel_rfl) ?hw19 ?hy19 ?hq19 (by assumption) ?r19
        case hi19 => (simp only [List.getElem?_toArray, List.getElem?_cons_zero]; rfl)
        case hd19 => rfl
        case hw19 => rfl
        case hy19 => ((intro w hSw; (try dsimp only at hSw); obtain ⟨qc0, qc1, qc2⟩ := hSw.1.cells; go_simp) <;> (with_reducible rfl))
        case hq19 => exact fun _ _ _ h => h
        simp only [List.set_cons_succ, List.set_cons_zero]
        refine take_at (i := 1) (d := 54) (oi := ?o20) (v := ?v20) ?hi20 ?hd20 (by kernel_rfl) (by kernel_rfl) (by kernel_rfl) ?hw20 ?hy20 ?hq20 (by assumption) ?r20
        case hi20 => (simp only [List.getElem?_toArray, List.getElem?_cons_succ, List.getElem?_cons_zero]; rfl)
        case hd20 => rfl
        case hw20 => rfl
        case hy20 => ((intro w hSw; (try dsimp only at hSw); go_simp) <;> (with_reducible rfl))
        case hq20 => exact fun _ _ _ h => h
        simp only [List.set_cons_succ, List.set_cons_zero]
        refine take_at (i := 2) (d := 55) (oi := ?o21) (v := ?v21) ?hi21 ?hd21 (by kernel_rfl) (by kernel_rfl) (by kernel_rfl) ?hw21 ?hy21 ?hq21 (by assumption) ?r21
        case hi21 => (simp only [List.getElem?_toArray, List.getElem?_cons_succ, List.getElem?_cons_zero]; rfl)
        case hd21 => rfl
        case hw21 => rfl
        case hy21 => ((intro w hSw; (try dsimp only at hSw); go_simp) <;> (with_reducible rfl))
        case hq21 => exact fun _ _ _ h => h
        simp only [List.set_cons_succ, List.set_cons_zero]
        refine take_at (i := 3) (d := 56) (oi := ?o22) (v := ?v22) ?hi22 ?hd22 (by kernel_rfl) (by kernel_rfl) (by kernel_rfl) ?hw22 ?hy22 ?hq22 (by assumption) ?r22
        case hi22 => (simp only [List.getElem?_toArray, List.getElem?_cons_succ, List.getElem?_cons_zero]; rfl)
        case hd22 => rfl
        case hw22 => rfl
        case hy22 => ((intro w hSw; (try dsimp only at hSw); go_simp) <;> (with_reducible rfl))
        case hq22 => exact fun _ _ _ h => h
        simp only [List.set_cons_succ, List.set_cons_zero]
        refine skip_at (i := 4) (d := 57) (oi := ?o23) ?hi23 ?hd23 (by kernel_rfl) (by kernel_rfl) (by kernel_rfl) ?hw23 ?hq23 (by assumption) ?r23
        case hi23 => (simp only [List.getElem?_toArray, List.getElem?_cons_succ, List.getElem?_cons_zero]; rfl)
        case hd23 => rfl
        case hw23 => rfl
        case hq23 => exact fun _ _ _ h => h
        simp only [List.set_cons_succ, List.set_cons_zero]
        refine skip_at (i := 5) (d := 58) (oi := ?o24) ?hi24 ?hd24 (by kernel_rfl) (by kernel_rfl) (by kernel_rfl) ?hw24 ?hq24 (by assumption) ?r24
        case hi24 => (simp only [List.getElem?_toArray, List.getElem?_cons_succ, List.getElem?_cons_zero]; rfl)
        case hd24 => rfl
        case hw24 => rfl
        case hq24 => exact fun _ _ _ h => h
        simp only [List.set_cons_succ, List.set_cons_zero]
        refine take_at (i := 6) (d := 59) (oi := ?o25) (v := ?v25) ?hi25 ?hd25 (by kernel_rfl) (by kernel_rfl) (by kernel_rfl) ?hw25 ?hy25 ?hq25 (by assumption) ?r25
        case hi25 => (simp only [List.getElem?_toArray, List.getElem?_cons_succ, List.getElem?_cons_zero]; rfl)
        case hd25 => rfl
        case hw25 => rfl
        case hy25 => ((intro w hSw; (try dsimp only at hSw); go_simp) <;> (with_reducible rfl))
        case hq25 => exact fun _ _ _ h => h
        simp only [List.set_cons_succ, List.set_cons_zero]
        obtain ⟨⟨x0, hz0⟩, hB9⟩ := hHeld.2
        replace hz0 : BoxE w8 z x0 := hz0
        replace hB9 : Below w.heap.size w w8 := H8.out.2.2
        have l0 := hz0.frozen 0
        have l1 := hz0.frozen 1
        have l2 := hz0.frozen 2
        obtain ⟨z0, z1, z2⟩ := hz0.cells
        have bz := ((hz0.s0 p).s1 q).s2 v
        have hzw := Hz.out.1
        have hB10 := ((hB9.setCell (p := ⟨z, 0, none⟩) hzw (.int .i64 p)).setCell (p := ⟨z, 1, none⟩) hzw (.int .i64 q)).setCell (p := ⟨z, 2, none⟩) hzw (.int .i64 v)
        have by_ := (((show BoxE w8 y ⟨p, q, v⟩ from hHeld.1).other Hyz.out 0 (.int .i64 p)).other Hyz.out 1 (.int .i64 q)).other Hyz.out 2 (.int .i64 v)
        refine wpAnyH_ready (rs := [7]) (by kernel_rfl) (by simp) ?_
        refine br_store (i := 7) (oi := ?o26) (w' := (((w8.setCell ⟨z, 0, none⟩ (.int .i64 p)).setCell ⟨z, 1, none⟩ (.int .i64 q)).setCell ⟨z, 2, none⟩ (.int .i64 v)).drew) ?hi26 ?hd26 ?hw26 ?he26 ⟨by_, ⟨_, bz⟩, hB10.drew⟩ ?hc26
        case hi26 => (simp only [List.getElem?_toArray, List.getElem?_cons_succ, List.getElem?_cons_zero]; rfl)
        case hd26 => rfl
        case hw26 => rfl
        case he26 => (first | (go_simp; done) | (go_simp; rfl))
        intro hHeld
        refine take_at (i := 8) (d := 3) (oi := ?o27) (v := ?v27) ?hi27 ?hd27 (by kernel_rfl) (by kernel_rfl) (by kernel_rfl) ?hw27 ?hy27 ?hq27 (by assumption) ?r27
        case hi27 => (simp only [List.getElem?_toArray, List.getElem?_cons_succ, List.getElem?_cons_zero]; rfl)
        case hd27 => rfl
        case hw27 => rfl
        case hy27 => ((intro w hSw; (try dsimp only at hSw); go_simp) <;> (with_reducible rfl))
        case hq27 => exact fun _ _ _ h => h
        simp only [List.set_cons_succ, List.set_cons_zero]
        refine wpAnyH_done (by kernel_rfl) ?_ _
        clear l0 l1 l2 z0 z1 z2
        obtain ⟨z0, z1, z2⟩ := bz.cells
        have HF := Lib.hid (⟨hB10.drew, z0⟩ : _ ∧ _)
        go_wp2_with fail
        exact bodyPost_ret (v := .tuple #[.agg #[.int .i64 p, .int .i64 q, .int .i64 v], .bool false]) (by simp [results, Tryd.results30, go_sem, z0, z1, z2]) rfl ⟨⟨⟨p, q, v⟩, by rw [HR.out]; rfl, fun yy hyy => by rw [HR.out] at hyy; cases hyy⟩, HF.out.1⟩
    · have HR := Lib.hid (Hrec.out.trans (if_neg (fun h => h1 h.1)))
      have q1 : (e1 != 0) = true := by simpa using h1
      have f0 := b2.frozen 0
      have f1 := b2.frozen 1
      have f2 := b2.frozen 2
      obtain ⟨d0, d1, d2⟩ := b2.cells
      have H := Lib.hid (⟨b2, hB2⟩ : _ ∧ _)
      clear h1 hrest hb2 b2 hB2
      go_wp2_with fail
      have b3 := ((H.out.1.s0 0).s1 0).s2 0
      have hz := Hz.out.1
      have hB3 := ((H.out.2.setCell (p := ⟨z, 0, none⟩) hz (.int .i64 0)).setCell (p := ⟨z, 1, none⟩) hz (.int .i64 0)).setCell (p := ⟨z, 2, none⟩) hz (.int .i64 0)
      clear d0 d1 d2
      obtain ⟨d0, d1, d2⟩ := b3.cells
      exact bodyPost_ret (v := .tuple #[.agg #[.int .i64 0, .int .i64 0, .int .i64 0], .bool false]) (by simp [results, Tryd.results30, go_sem, d0, d1, d2]) rfl ⟨⟨⟨0, 0, 0⟩, by rw [HR.out]; rfl, fun yy hyy => by rw [HR.out] at hyy; cases hyy⟩, hB3⟩

end Go.Proofs.YtlblfpfdebmcgaaDoor
