/-
  snap.numbersOf, Take, Again: their contracts.
-/
import Derived.Test.YtdggacabjlengaaDoorShorts
import Derived.Test.YtdggacabjlengaaDoorPutA
namespace Go.Proofs.YtdggacabjlengaaDoor
open Go.RowKit
set_option linter.unusedVariables false
set_option linter.unusedSimpArgs false

/-- A scope with one label: what holds at the label holds at its first coming and at every jump; so the code behind it is walked once. -/
theorem scope_wp {P : Program} {a : Act} {w : World} {Q : Exit → Act → World → Prop} {c rest : Code} (l : Nat) (J : Act → World → Prop) (μ : Act → World → Nat) (hf : findLabel c l = some (.seq .skip rest))
    (first : (∀ a w, J a w → rest.wp P (Exit.jump l J Q) a w) → c.wp P (Exit.jump l J Q) a w)
    (pass : ∀ a w, J a w → rest.wp P (Exit.jump l (fun a' w' => J a' w' ∧ μ a' w' < μ a w) Q) a w) : (Code.scope c).wp P Q a w :=
  wp_scope_jumps l J μ hf (first fun a w h => wp_mono (pass a w h) fun e a' w' hq => by
    cases e with
    | goto l' => exact ⟨hq.1, hq.2.1⟩
    | _ => exact hq) fun a w h => wp_seq (wp_skip (pass a w h))
theorem heap_set {W : World} {z i : Nat} {t : TypeId} {cs : Array Value} {fz : Nat × Nat} (h : W.heap[z]? = some (.cells cs t fz)) (v : Value) : (W.setCell ⟨z, i, none⟩ v).heap[z]? = some (.cells (cs.setIfInBounds i v) t fz) := by
  obtain ⟨hlt, hk⟩ := Array.getElem?_eq_some_iff.1 h
  show (W.heap.modify z _)[z]? = _
  rw [Array.getElem?_eq_getElem (by rw [Array.size_modify]; exact hlt), Array.getElem_modify_self, hk]
  rfl

set_option maxRecDepth 100000 in
set_option maxHeartbeats 1000000 in
theorem numsOf_any (A : Option Addr) (n c : Nat) (b : List Int) (f : Int) (w : World) (hl : Rd w w.heap.size .u8 A n b) (hb : Byt b) (hnc : n ≤ c) (hn : n ≤ 1000000) : Calls Tryd.prog 26 #[.slice A n c, .int .i64 f] w (NumsOut f b w) := by
  have HL := Lib.hid (longs_any A n c b w hl hb hnc)
  have HS := Lib.hid (shorts_any A n c b w hl hb hnc hn)
  clear hl hb
  by_cases f1 : f = 1
  · subst f1
    go_enter Tryd.func26, Tryd.ntmps26
    go_wp2_with fail
    refine Calls.mono HL.out ?_
    rintro e w1 ⟨⟨l, A1, c1, hl5, rfl, hc1, hr1, hs⟩ | ⟨⟨A1, n1, c1, rfl⟩, hs⟩, hb1⟩
    · have H := Lib.hid (⟨hl5, hc1, hr1, hs, hb1⟩ : _ ∧ _ ∧ _ ∧ _ ∧ _)
      clear hl5 hc1 hr1 hs hb1
      go_wp2_with fail
      go_ret2
      exact ⟨.inl ⟨l, A1, c1, H.out.1, rfl, H.out.2.1, H.out.2.2.1, H.out.2.2.2.1⟩, H.out.2.2.2.2⟩
    · have H := Lib.hid (⟨hs, hb1⟩ : _ ∧ _)
      clear hs hb1
      go_wp2_with fail
      go_ret2
      exact ⟨.inr ⟨⟨_, _, _, rfl⟩, H.out.1⟩, H.out.2⟩
  by_cases f2 : f = 2
  · subst f2
    go_enter Tryd.func26, Tryd.ntmps26
    go_wp2_with fail
    refine Calls.mono HS.out ?_
    rintro e w1 ⟨⟨l, A1, c1, hl5, rfl, hc1, hr1, hs⟩ | ⟨⟨A1, n1, c1, rfl⟩, hs⟩, hb1⟩
    · have H := Lib.hid (⟨hl5, hc1, hr1, hs, hb1⟩ : _ ∧ _ ∧ _ ∧ _ ∧ _)
      clear hl5 hc1 hr1 hs hb1
      go_wp2_with fail
      go_ret2
      exact ⟨.inl ⟨l, A1, c1, H.out.1, rfl, H.out.2.1, H.out.2.2.1, H.out.2.2.2.1⟩, H.out.2.2.2.2⟩
    · have H := Lib.hid (⟨hs, hb1⟩ : _ ∧ _)
      clear hs hb1
      go_wp2_with fail
      go_ret2
      exact ⟨.inr ⟨⟨_, _, _, rfl⟩, H.out.1⟩, H.out.2⟩
  · have e1 : (f == 1) = false := by simpa using f1
    have e2 : (f == 2) = false := by simpa using f2
    have H := Lib.hid (show ∀ s, ¬ IsSnap s f b from fun s h => h.fmt.elim f1 f2)
    go_enter Tryd.func26, Tryd.ntmps26
    go_wp2_with fail
    go_ret2
    exact ⟨.inr ⟨⟨_, _, _, rfl⟩, H.out⟩, Below.refl _ _⟩

/-- The state of five numbers. -/
def stOf (l : List Int) : StP := ⟨l[0]?.getD 0, l[1]?.getD 0, l[2]?.getD 0, l[3]?.getD 0, l[4]?.getD 0 == 1⟩
theorem stOf_stN (s : StP) : stOf (stN s) = s := by
  obtain ⟨a, b, c, d, e⟩ := s
  cases e <;> rfl
theorem BoxS.frozen {W : World} {z : Nat} {s : StP} (h : BoxS W z s) (i : Nat) : W.frozen? ⟨z, i, none⟩ = false := by
  simp [World.frozen?, show W.heap[z]? = _ from h]
/-- A whole state written into a box. -/
def putS (W : World) (z : Nat) (s : StP) : World := ((((W.setCell ⟨z, 0, none⟩ (.int .i64 s.ix)).setCell ⟨z, 1, none⟩ (.int .i64 s.tm)).setCell ⟨z, 2, none⟩ (.int .i64 s.sm)).setCell ⟨z, 3, none⟩ (.int .i64 s.lv)).setCell ⟨z, 4, none⟩ (.bool s.fn)
theorem putS_box {W : World} {z : Nat} {t : StP} (h : BoxS W z t) (s : StP) : BoxS (putS W z s) z s := heap_set (heap_set (heap_set (heap_set (heap_set h _) _) _) _) _
theorem putS_below {w W : World} {z B : Nat} (hz : B ≤ z) (s : StP) (h : Below B w W) : Below B w (putS W z s) :=
  ((((h.setCell (p := ⟨z, 0, none⟩) hz _).setCell (p := ⟨z, 1, none⟩) hz _).setCell (p := ⟨z, 2, none⟩) hz _).setCell (p := ⟨z, 3, none⟩) hz _).setCell (p := ⟨z, 4, none⟩) hz _
theorem putS_other {W : World} {z y : Nat} (s : StP) (hne : y ≠ z) : (putS W z s).heap[y]? = W.heap[y]? := by
  unfold putS
  rw [Below.heap_setCell _ _ _ y (by simpa using hne), Below.heap_setCell _ _ _ y (by simpa using hne), Below.heap_setCell _ _ _ y (by simpa using hne), Below.heap_setCell _ _ _ y (by simpa using hne), Below.heap_setCell _ _ _ y (by simpa using hne)]
theorem putS_size (W : World) (z : Nat) (s : StP) : (putS W z s).heap.size = W.heap.size := by simp [putS]
/-- What holds where there is none. -/
def TJ (w : World) (z : Nat) (b : List Int) (f : Int) (a : Act) (W : World) : Prop :=
  ∃ (u0 u1 u2 u3 u5 u6 u7 u8 u9 u10 u11 u12 u13 u14 u15 u16 u17 u18 u19 u20 u21 u22 u23 u24 u25 u26 u27 u28 u29 u30 u31 u32 u33 u34 u35 u36 u37 u38 u39 u40 u41 u42 u43 u44 u45 u46 u47 u48 u49 u50 u51 : Value) (s : StP), BoxS W z s ∧ Below w.heap.size w W ∧ (∀ t, ¬ IsSnap t f b) ∧ a = { tmps := #[u0, u1, u2, u3, .pointer (some ⟨z, 0, none⟩), u5, u6, u7, u8, u9, u10, u11, u12, u13, u14, u15, u16, u17, u18, u19, u20, u21, u22, u23, u24, u25, u26, u27, u28, u29, u30, u31, u32, u33, u34, u35, u36, u37, u38, u39, u40, u41, u42, u43, u44, u45, u46, u47, u48, u49, u50, u51], defers := [] }

set_option maxRecDepth 100000 in
set_option maxHeartbeats 2000000 in
theorem Take_any (A : Option Addr) (n c : Nat) (b : List Int) (f : Int) (w : World) (hT : Cr.Tab w) (hl : Rd w w.heap.size .u8 A n b) (hb : Byt b) (hnc : n ≤ c) (hn : n ≤ 1000000) :
    Calls Tryd.prog 11 #[.slice A n c, .int .i64 f] w (TakeT b f w) := by
  have Hl := Lib.hid (⟨hl, hb, hT⟩ : _ ∧ _ ∧ _)
  clear hl hb hT
  go_enter Tryd.func11, Tryd.ntmps11
  go_wp2_with fail
  obtain ⟨z, hz⟩ : ∃ z, z = w.heap.size := ⟨_, rfl⟩
  obtain ⟨w0, hw0⟩ : ∃ w0, w0 = w.alloc (.cells #[.int .i64 0, .int .i64 0, .int .i64 0, .int .i64 0, .bool false] 23) := ⟨_, rfl⟩
  have hB0 : Below w.heap.size w w0 := by rw [hw0]; exact below_al (below_d0 w) _
  have b0 : BoxS w0 z noneP := by rw [hw0, hz]; exact BoxS.new w noneP
  have hs0 : w0.heap.size = z + 1 := by rw [hw0, hz]; simp
  rw [← hw0, ← hz]
  have Hz := Lib.hid (show w.heap.size ≤ z ∧ z = w.heap.size by omega)
  have H0 := Lib.hid (⟨hB0, b0, hs0⟩ : _ ∧ _ ∧ _)
  clear hw0 hz hB0 b0 hs0
  refine scope_wp 0 (TJ w z b f) (fun _ _ => 0) rfl ?first ?pass
  case pass =>
    rintro a W ⟨u0, u1, u2, u3, u5, u6, u7, u8, u9, u10, u11, u12, u13, u14, u15, u16, u17, u18, u19, u20, u21, u22, u23, u24, u25, u26, u27, u28, u29, u30, u31, u32, u33, u34, u35, u36, u37, u38, u39, u40, u41, u42, u43, u44, u45, u46, u47, u48, u49, u50, u51, s, hbx, hB, hno, rfl⟩
    obtain ⟨c0, c1, c2, c3, c4⟩ := hbx.cells
    have f0 := hbx.frozen 0
    have f1 := hbx.frozen 1
    have f2 := hbx.frozen 2
    have f3 := hbx.frozen 3
    have f4 := hbx.frozen 4
    have H := Lib.hid (⟨hbx, hB, hno⟩ : _ ∧ _ ∧ _)
    clear hbx hB hno
    go_wp2_with fail
    simp only [Exit.jump]
    obtain ⟨W', hW'⟩ : ∃ x, x = putS W z noneP := ⟨_, rfl⟩
    have b3 := putS_box H.out.1 noneP
    have hB3 := putS_below Hz.out.1 noneP H.out.2.1
    rw [← hW'] at b3 hB3
    obtain ⟨d0, d1, d2, d3, d4⟩ := b3.cells
    have e : W' = ((((W.setCell ⟨z, 0, none⟩ (.int .i64 0)).setCell ⟨z, 1, none⟩ (.int .i64 0)).setCell ⟨z, 2, none⟩ (.int .i64 0)).setCell ⟨z, 3, none⟩ (.int .i64 0)).setCell ⟨z, 4, none⟩ (.bool false) := hW'
    rw [← e]
    clear e hW' c0 c1 c2 c3 c4 f0 f1 f2 f3 f4
    exact bodyPost_ret (v := .tuple #[.agg #[.int .i64 0, .int .i64 0, .int .i64 0, .int .i64 0, .bool false], .int .i64 11]) (by simp [results, Tryd.results11, go_sem, d0, d1, d2, d3, d4, noneP]) rfl ⟨⟨noneP, 11, .inr ⟨rfl, rfl, H.out.2.2⟩, rfl⟩, hB3⟩
  case first =>
    intro hrest
    go_wp2_with fail
    obtain ⟨y, hy⟩ : ∃ y, y = w0.heap.size := ⟨_, rfl⟩
    obtain ⟨w1, hw1⟩ : ∃ x, x = w0.alloc (.cells #[.int .i64 0, .int .i64 0, .int .i64 0, .int .i64 0, .bool false] 23) := ⟨_, rfl⟩
    have b1 : BoxS w1 y noneP := by rw [hw1, hy]; exact BoxS.new w0 noneP
    have hB01 : Below w0.heap.size w0 w1 := by rw [hw1]; exact below_al (below_d0 w0) _
    have hB1 := H0.out.1.trans (hB01.mono H0.out.1.size)
    have z1 : BoxS w1 z noneP := H0.out.2.1.below hB01
    have hyz : y = z + 1 := by rw [hy]; exact H0.out.2.2
    rw [← hw1, ← hy]
    have H1 := Lib.hid (⟨b1, hB1, z1, hyz, Hl.out.1.on hB1 hB1.size⟩ : _ ∧ _ ∧ _ ∧ _ ∧ _)
    clear hw1 hy b1 hB01 hB1 z1 hyz
    refine Calls.mono (numsOf_any A n c b f w1 H1.out.2.2.2.2 Hl.out.2.1 hnc hn) ?_
    rintro e w2 ⟨⟨l, A2, c2, hl5, rfl, hc2, hr2, hs⟩ | ⟨⟨A2, n2, c2, rfl⟩, hs⟩, hb2⟩
    · obtain ⟨bl, off, rfl, hbl, hcell⟩ := hr2.at_ (by omega)
      have l0 := hcell 0 (by omega)
      have l1 := hcell 1 (by omega)
      have l2 := hcell 2 (by omega)
      have l3 := hcell 3 (by omega)
      have l4 := hcell 4 (by omega)
      rw [Nat.add_zero] at l0
      have b2 := H1.out.1.below hb2
      have z2 := H1.out.2.2.1.below hb2
      have hB2 := H1.out.2.1.trans (hb2.mono H1.out.2.1.size)
      obtain ⟨x0, hx0⟩ : ∃ x, x = l[0]?.getD 0 := ⟨_, rfl⟩
      obtain ⟨x1, hx1⟩ : ∃ x, x = l[1]?.getD 0 := ⟨_, rfl⟩
      obtain ⟨x2, hx2⟩ : ∃ x, x = l[2]?.getD 0 := ⟨_, rfl⟩
      obtain ⟨x3, hx3⟩ : ∃ x, x = l[3]?.getD 0 := ⟨_, rfl⟩
      obtain ⟨x4, hx4⟩ : ∃ x, x = l[4]?.getD 0 := ⟨_, rfl⟩
      rw [← hx0] at l0
      rw [← hx1] at l1
      rw [← hx2] at l2
      rw [← hx3] at l3
      rw [← hx4] at l4
      obtain ⟨s, hsv⟩ : ∃ s : StP, s = ⟨x0, x1, x2, x3, x4 == 1⟩ := ⟨_, rfl⟩
      have hso : s = stOf l := by rw [hsv, hx0, hx1, hx2, hx3, hx4]; rfl
      obtain ⟨c0, c1, c2', c3, c4⟩ := b2.cells
      have f0 := b2.frozen 0
      have f1 := b2.frozen 1
      have f2 := b2.frozen 2
      have f3 := b2.frozen 3
      have f4 := b2.frozen 4
      have hby : bl ≠ y := by
        rintro rfl
        have h := l0
        rw [cell_of_row _ _ _ _ _ _ b2] at h
        have h2 := hcell 1 (by omega)
        have h3 := hcell 2 (by omega)
        have h4 := hcell 3 (by omega)
        have h5 := hcell 4 (by omega)
        rw [cell_of_row _ _ _ _ _ _ b2] at h5 h2 h3 h4
        match off, h, h2, h3, h4, h5 with
        | 0, h, h2, h3, h4, h5 => simp at h5
        | 1, h, h2, h3, h4, h5 => simp at h5
        | 2, h, h2, h3, h4, h5 => simp at h4
        | 3, h, h2, h3, h4, h5 => simp at h3
        | 4, h, h2, h3, h4, h5 => simp at h
        | off + 5, h, h2, h3, h4, h5 => simp at h
      have H2 := Lib.hid (⟨b2, z2, hB2, hs, hso, hsv⟩ : _ ∧ _ ∧ _ ∧ _ ∧ _ ∧ _)
      clear b2 z2 hB2 hs hso hsv hl5 hcell hr2 hbl hb2 hx0 hx1 hx2 hx3 hx4 hc2
      go_wp2_with fail
      go_still_tail 17, (by kernel_rfl)
      change wpList _ _ _ _ _ w2.drew
      go_wp2_with fail
      obtain ⟨b2, z2, hB2, hs, hso, hsv⟩ := H2.out
      obtain ⟨w3, hw3⟩ : ∃ x, x = (putS w2 y s).drew := ⟨_, rfl⟩
      have e3 : w3 = (((((w2.setCell ⟨y, 0, none⟩ (.int .i64 x0)).setCell ⟨y, 1, none⟩ (.int .i64 x1)).setCell ⟨y, 2, none⟩ (.int .i64 x2)).setCell ⟨y, 3, none⟩ (.int .i64 x3)).setCell ⟨y, 4, none⟩ (.bool (x4 == 1))).drew := by rw [hw3, hsv]; rfl
      rw [← e3]
      have hyz := H1.out.2.2.2.1
      have b3 : BoxS w3 y s := by rw [hw3]; exact putS_box b2 s
      have z3 : BoxS w3 z noneP := by rw [hw3]; exact (putS_other s (by omega)).trans z2
      have hB3 : Below w.heap.size w w3 := by rw [hw3]; exact (putS_below (by have := Hz.out.1; omega) s hB2).drew
      have hr3 : Rd w3 w3.heap.size .u8 A n b := Hl.out.1.on hB3 hB3.size
      have hPut : Calls Tryd.prog 9 #[.agg #[.int .i64 x0, .int .i64 x1, .int .i64 x2, .int .i64 x3, .bool (x4 == 1)], .int .i64 f] w3 (Told w3 (putP s f)) := by
        have h := Put_any s f w3 (Hl.out.2.2.on hB3)
        rwa [show s.v = .agg #[.int .i64 x0, .int .i64 x1, .int .i64 x2, .int .i64 x3, .bool (x4 == 1)] by rw [hsv]; rfl] at h
      have H3 := Lib.hid (⟨b3, z3, hB3, hr3, hPut⟩ : _ ∧ _ ∧ _ ∧ _ ∧ _)
      clear e3 hw3 b3 z3 hB3 hr3 hPut b2 z2 hB2 hs hso hsv hyz l0 l1 l2 l3 l4 c0 c1 c2' c3 c4 f0 f1 f2 f3 f4 hby
      refine Calls.mono H3.out.2.2.2.2 ?_
      rintro e w4 ⟨⟨A4, c4, rfl, hc4, hr4⟩, hb4⟩
      obtain ⟨b3, z3, hB3, hr3, -⟩ := H3.out
      obtain ⟨-, -, -, hs, hso, hsv⟩ := H2.out
      have b4 := b3.below hb4
      have z4 := z3.below hb4
      have hB4 := hB3.trans (hb4.mono hB3.size)
      have hrb4 := hr3.on hb4 hb4.size
      by_cases hF : fineB s = true ∧ FmtP f
      · rw [putP_yes hF.1 hF.2] at hc4 hr4 ⊢
        dsimp only at hc4 hr4 ⊢
        obtain ⟨q, hq⟩ : ∃ q, (snapL s f).length = q := ⟨_, rfl⟩
        rw [hq] at hc4 hr4 ⊢
        have hEq := Cr.equal_any A4 A q n c4 c (snapL s f) b w4 hr4 hrb4 (snap_byt hF.1 f) Hl.out.2.1
        cases hE : Cr.eqB (snapL s f) b with
        | true =>
          have hbe : b = snapL s f := (Cr.eqB_iff.1 hE).symm
          rw [hE] at hEq
          obtain ⟨d0, d1, d2, d3, d4⟩ := b4.cells
          obtain ⟨k0, k1, k2, k3, k4⟩ := z4.cells
          have f0 := z4.frozen 0
          have f1 := z4.frozen 1
          have f2 := z4.frozen 2
          have f3 := z4.frozen 3
          have f4 := z4.frozen 4
          have H4 := Lib.hid (⟨z4, hB4, (⟨hF.1, hF.2, hbe⟩ : IsSnap s f b), hEq⟩ : _ ∧ _ ∧ _ ∧ _)
          clear b3 z3 hB3 hr3 hs hso hsv hb4 b4 z4 hB4 hrb4 hF hc4 hr4 hq hEq hbe hE
          go_wp2_with fail
          refine Calls.mono H4.out.2.2.2 ?_
          rintro e w5 ⟨rfl, rfl⟩
          go_wp2_with fail
          simp only [Exit.jump]
          obtain ⟨W', hW'⟩ : ∃ x, x = putS w5 z s := ⟨_, rfl⟩
          have b6 := putS_box H4.out.1 s
          have hB6 := putS_below Hz.out.1 s H4.out.2.1
          rw [← hW'] at b6 hB6
          obtain ⟨g0, g1, g2, g3, g4⟩ := b6.cells
          have e6 : W' = ((((w5.setCell ⟨z, 0, none⟩ (.int .i64 s.ix)).setCell ⟨z, 1, none⟩ (.int .i64 s.tm)).setCell ⟨z, 2, none⟩ (.int .i64 s.sm)).setCell ⟨z, 3, none⟩ (.int .i64 s.lv)).setCell ⟨z, 4, none⟩ (.bool s.fn) := hW'
          rw [← e6]
          have HX := Lib.hid (⟨s, 0, .inl ⟨rfl, H4.out.2.2.1⟩, rfl⟩ : ∃ t er, TakeIs b f t er ∧ Ending.returned (.tuple #[.agg #[.int .i64 s.ix, .int .i64 s.tm, .int .i64 s.sm, .int .i64 s.lv, .bool s.fn], .int .i64 0]) = .returned (.tuple #[t.v, .int .i64 er]))
          clear e6 hW' d0 d1 d2 d3 d4 k0 k1 k2 k3 k4 f0 f1 f2 f3 f4 b6
          exact bodyPost_ret (v := .tuple #[.agg #[.int .i64 s.ix, .int .i64 s.tm, .int .i64 s.sm, .int .i64 s.lv, .bool s.fn], .int .i64 0]) (by simp [results, Tryd.results11, go_sem, g0, g1, g2, g3, g4]) rfl ⟨HX.out, hB6⟩
        | false =>
          have hno : ∀ t, ¬ IsSnap t f b := fun t ht => by
            have h1 : s = t := by rw [hso, hs t ht, stOf_stN]
            have h2 : snapL s f = b := by rw [h1]; exact ht.eq.symm
            rw [Cr.eqB_iff.2 h2] at hE
            cases hE
          rw [hE] at hEq
          have H4 := Lib.hid (⟨z4, hB4, hno, hEq⟩ : _ ∧ _ ∧ _ ∧ _)
          clear b3 z3 hB3 hr3 hs hso hsv hb4 b4 z4 hB4 hrb4 hF hc4 hr4 hq hEq hno hE
          go_wp2_with fail
          refine Calls.mono H4.out.2.2.2 ?_
          rintro e w5 ⟨rfl, rfl⟩
          go_wp2_with fail
          refine wp_goto ⟨rfl, _, _, _, _, _, _, _, _, _, _, _, _, _, _, _, _, _, _, _, _, _, _, _, _, _, _, _, _, _, _, _, _, _, _, _, _, _, _, _, _, _, _, _, _, _, _, _, _, _, _, _, _, H4.out.1, H4.out.2.1, H4.out.2.2.1, rfl⟩
      · have hno : ∀ t, ¬ IsSnap t f b := fun t ht => by
          have h1 : s = t := by rw [hso, hs t ht, stOf_stN]
          exact hF ⟨h1 ▸ ht.fine, ht.fmt⟩
        rw [putP_no hF]
        have H4 := Lib.hid (⟨z4, hB4, hno⟩ : _ ∧ _ ∧ _)
        clear b3 z3 hB3 hr3 hs hso hsv hb4 b4 z4 hB4 hrb4 hF hc4 hr4 hno
        go_wp2_with fail
        refine wp_goto ⟨rfl, _, _, _, _, _, _, _, _, _, _, _, _, _, _, _, _, _, _, _, _, _, _, _, _, _, _, _, _, _, _, _, _, _, _, _, _, _, _, _, _, _, _, _, _, _, _, _, _, _, _, _, _, H4.out.1, H4.out.2.1, H4.out.2.2, rfl⟩
    · have b2 := H1.out.2.2.1.below hb2
      have hB2 := H1.out.2.1.trans (hb2.mono H1.out.2.1.size)
      have H2 := Lib.hid (⟨b2, hB2, hs⟩ : _ ∧ _ ∧ _)
      clear b2 hB2 hs hb2
      go_wp2_with fail
      refine wp_goto ⟨rfl, _, _, _, _, _, _, _, _, _, _, _, _, _, _, _, _, _, _, _, _, _, _, _, _, _, _, _, _, _, _, _, _, _, _, _, _, _, _, _, _, _, _, _, _, _, _, _, _, _, _, _, _, H2.out.1, H2.out.2.1, H2.out.2.2, rfl⟩

end Go.Proofs.YtdggacabjlengaaDoor
