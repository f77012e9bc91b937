/-
  one.recordOf: its contract.
-/
import Derived.Test.YtlblfpfdebmcgaaDoorRecO
namespace Go.Proofs.YtlblfpfdebmcgaaDoor
open Go.RowKit
set_option linter.unusedVariables false

/-- A scope with one label: what holds at the label holds at its first coming and at every jump; so the code behind it is walked once. -/
theorem scope_wp {P : Program} {a : Act} {w : World} {Q : Exit → Act → World → Prop} {c rest : Code} (l : Nat) (J : Act → World → Prop) (μ : Act → World → Nat) (hf : findLabel c l = some (.seq .skip rest))
    (first : (∀ a w, J a w → rest.wp P (Exit.jump l J Q) a w) → c.wp P (Exit.jump l J Q) a w)
    (pass : ∀ a w, J a w → rest.wp P (Exit.jump l (fun a' w' => J a' w' ∧ μ a' w' < μ a w) Q) a w) : (Code.scope c).wp P Q a w :=
  wp_scope_jumps l J μ hf (first fun a w h => wp_mono (pass a w h) fun e a' w' hq => by
    cases e with
    | goto l' => exact ⟨hq.1, hq.2.1⟩
    | _ => exact hq) fun a w h => wp_seq (wp_skip (pass a w h))
theorem heap_set {W : World} {z i : Nat} {t : TypeId} {cs : Array Value} {fz : Nat × Nat} (h : W.heap[z]? = some (.cells cs t fz)) (v : Value) : (W.setCell ⟨z, i, none⟩ v).heap[z]? = some (.cells (cs.setIfInBounds i v) t fz) := by
  obtain ⟨hlt, hk⟩ := Array.getElem?_eq_some_iff.1 h
  show (W.heap.modify z _)[z]? = _
  rw [Array.getElem?_eq_getElem (by rw [Array.size_modify]; exact hlt), Array.getElem_modify_self, hk]
  rfl
theorem BoxE.s0 {W : World} {z : Nat} {x : EnP} (h : BoxE W z x) (v : Int) : BoxE (W.setCell ⟨z, 0, none⟩ (.int .i64 v)) z ⟨v, x.kd, x.vl⟩ := heap_set h _
theorem BoxE.s1 {W : World} {z : Nat} {x : EnP} (h : BoxE W z x) (v : Int) : BoxE (W.setCell ⟨z, 1, none⟩ (.int .i64 v)) z ⟨x.tm, v, x.vl⟩ := heap_set h _
theorem BoxE.s2 {W : World} {z : Nat} {x : EnP} (h : BoxE W z x) (v : Int) : BoxE (W.setCell ⟨z, 2, none⟩ (.int .i64 v)) z ⟨x.tm, x.kd, v⟩ := heap_set h _
theorem BoxE.frozen {W : World} {z : Nat} {x : EnP} (h : BoxE W z x) (i : Nat) : W.frozen? ⟨z, i, none⟩ = false := by
  simp [World.frozen?, show W.heap[z]? = _ from h]

theorem not_box {W : World} {z B n b off : Nat} {x : EnP} {L : List Int} (h : BoxE W z x) (hr : Rd W B .u8 (some ⟨b, off, none⟩) n L) (hn : 0 < n) : b ≠ z := by
  rintro rfl
  obtain ⟨b', off', e, _, hc⟩ := hr.2 hn
  injection e with e
  injection e with e1 e2
  subst e1 e2
  have h0 := hc 0 hn
  simp only [World.cell?, show W.heap[b]? = _ from h] at h0
  obtain ⟨hlt, h1⟩ := Array.getElem?_eq_some_iff.1 h0
  have hlt' : off + 0 < 3 := hlt
  rcases (by omega : off + 0 = 0 ∨ off + 0 = 1 ∨ off + 0 = 2) with e | e | e <;> simp [e] at h1
theorem rd_set {W : World} {z i B n b off : Nat} {L : List Int} {k : IntKind} (hr : Rd W B k (some ⟨b, off, none⟩) n L) (hB : B ≤ W.heap.size) (hne : b ≠ z) (v : Value) : Rd (W.setCell ⟨z, i, none⟩ v) (W.setCell ⟨z, i, none⟩ v).heap.size k (some ⟨b, off, none⟩) n L := by
  have h := (Below.refl 0 W).setCell (p := ⟨z, i, none⟩) (Nat.zero_le _) v
  exact rd_over (c := n) hr hB (row := some z) ⟨h.os, h.tape, h.output, h.size, fun k _ hk => Below.heap_setCell _ _ _ k (by simpa using fun e => hk (by rw [e]))⟩ (fun g hg e => by
    have h1 : b = g := by simpa [Value.ownBlock] using hg
    have h2 : z = g := by simpa using e
    omega)

/-- What recordOf answers. -/
def recV (l : List Int) : Value := .tuple #[((recOf l).getD ⟨0, 0, 0⟩).v, .bool (recOf l).isSome]
/-- What holds where none stands. -/
def RJ (w : World) (z : Nat) (l : List Int) (a : Act) (W : World) : Prop :=
  ∃ (u0 u1 u3 u4 u5 u6 u7 u8 u9 u10 u11 u12 u13 u14 u15 u16 u17 u18 u19 u20 u21 u22 u23 u24 u25 u26 u27 u28 u29 u30 u31 u32 u33 u34 u35 u36 u37 u38 u39 u40 u41 u42 u43 u44 u45 u46 u47 u48 u49 u50 u51 : Value) (x : EnP), BoxE W z x ∧ Below w.heap.size w W ∧ recOf l = none ∧ a = { tmps := #[u0, u1, .pointer (some ⟨z, 0, none⟩), u3, u4, u5, u6, u7, u8, u9, u10, u11, u12, u13, u14, u15, u16, u17, u18, u19, u20, u21, u22, u23, u24, u25, u26, u27, u28, u29, u30, u31, u32, u33, u34, u35, u36, u37, u38, u39, u40, u41, u42, u43, u44, u45, u46, u47, u48, u49, u50, u51], defers := [] }

set_option maxRecDepth 100000 in
set_option maxHeartbeats 2000000 in
theorem recordOf_any (A : Option Addr) (n c : Nat) (l : List Int) (w : World) (hT : Cr.Tab w) (hr : Rd w w.heap.size .u8 A n l) (hb : Byt l) (hnc : n ≤ c) :
    Calls Tryd.prog 40 #[.slice A n c] w fun e w' => e = .returned (recV l) ∧ Below w.heap.size w w' := by
  have Hl := Lib.hid hr.1
  unfold recV
  go_enter Tryd.func40, Tryd.ntmps40
  go_wp2_with fail
  obtain ⟨z, hz⟩ : ∃ z, z = w.heap.size := ⟨_, rfl⟩
  obtain ⟨w0, hw0⟩ : ∃ w0, w0 = w.alloc (.cells #[.int .i64 0, .int .i64 0, .int .i64 0] 40) := ⟨_, rfl⟩
  have hB0 : Below w.heap.size w w0 := by rw [hw0]; exact below_al (below_d0 w) _
  have b0 : BoxE w0 z ⟨0, 0, 0⟩ := by rw [hw0, hz]; exact BoxE.new w ⟨0, 0, 0⟩
  rw [← hw0, ← hz]
  have Hz := Lib.hid (show w.heap.size ≤ z ∧ z = w.heap.size by omega)
  clear hw0 hz
  refine scope_wp 0 (RJ w z l) (fun _ _ => 0) rfl ?first ?pass
  case first =>
    intro hrest
    by_cases h15 : n < 15
    · have H := Lib.hid (recOf_short (b := l) (by rw [Hl.out]; exact h15))
      clear hr
      go_wp2_with fail
      refine wp_goto ⟨rfl, _, _, _, _, _, _, _, _, _, _, _, _, _, _, _, _, _, _, _, _, _, _, _, _, _, _, _, _, _, _, _, _, _, _, _, _, _, _, _, _, _, _, _, _, _, _, _, _, _, _, _, _, b0, hB0, H.out, rfl⟩
    · have h15' : 15 ≤ l.length := by rw [Hl.out]; omega
      have hr15 := (hr.first (m := 15) (by omega)).on hB0 hB0.size
      have e11 : (l.take 15).length - 4 = 11 := by rw [List.length_take]; omega
      have e11' : (l.take 15).take 11 = l.take 11 := by rw [List.take_take]; rfl
      obtain ⟨b, off, rfl, hbl, hcell⟩ := hr.at_ (by omega)
      clear hcell hr
      go_wp2_with fail
      refine (Cr.take_in _ 15 c (l.take 15) w0 (hT.on hB0) hr15 (hb.take 15) (by omega) (by omega)).mono ?_
      rintro e w1 ⟨hP, hb1⟩
      have b1 := b0.below hb1
      have hB1 := hB0.trans (hb1.mono hB0.size)
      rcases hP with ⟨hno, rfl⟩ | ⟨hok, At, ct, rfl, hct, hrt⟩
      · have H := Lib.hid (⟨b1, hB1, recOf_sum hno⟩ : _ ∧ _ ∧ _)
        clear b0 hB0 hb1 b1 hB1 hno hr15 e11
        go_wp2_with fail
        refine wp_goto ⟨rfl, _, _, _, _, _, _, _, _, _, _, _, _, _, _, _, _, _, _, _, _, _, _, _, _, _, _, _, _, _, _, _, _, _, _, _, _, _, _, _, _, _, _, _, _, _, _, _, _, _, _, _, _, H.out.1, H.out.2.1, H.out.2.2, rfl⟩
      · rw [e11, e11'] at hrt
        rw [e11] at hct ⊢
        obtain ⟨bt, ot, rfl, hbt, hcellt⟩ := hrt.at_ (by omega)
        have c5 := hcellt 5 (by omega)
        have rA := hrt.first (m := 5) (by omega)
        have rB : Rd w1 w1.heap.size .u8 (some ⟨bt, ot + 6, none⟩) 5 ((l.take 11).drop 6) := Nu.Rd.cut_at (m := 6) hrt (by omega)
        have hne := not_box b1 hrt (by omega)
        have hbA : Byt ((l.take 11).take 5) := (hb.take 11).take 5
        have hbB : Byt ((l.take 11).drop 6) := (hb.take 11).drop 6
        obtain ⟨q, hq⟩ : ∃ q, (l.take 11)[5]?.getD 0 = q := ⟨_, rfl⟩
        have hq2 := (hb.take 11).at_ 5
        obtain ⟨p, hp⟩ : ∃ p, (Nu.longP ((l.take 11).take 5)).1 = p := ⟨_, rfl⟩
        obtain ⟨e1, he1⟩ : ∃ e1, (Nu.longP ((l.take 11).take 5)).2.2 = e1 := ⟨_, rfl⟩
        obtain ⟨v, hv⟩ : ∃ v, (Nu.longP ((l.take 11).drop 6)).1 = v := ⟨_, rfl⟩
        obtain ⟨e2, he2⟩ : ∃ e2, (Nu.longP ((l.take 11).drop 6)).2.2 = e2 := ⟨_, rfl⟩
        rw [hq] at c5 hq2
        obtain ⟨hq3, hq4⟩ := hq2
        have hrec : recOf l = if e1 = 0 ∧ e2 = 0 ∧ RightP ⟨p, q, v⟩ then some ⟨p, q, v⟩ else none := by
          unfold recOf
          rw [hq, hp, he1, hv, he2]
          by_cases h : e1 = 0 ∧ e2 = 0 ∧ RightP ⟨p, q, v⟩
          · rw [if_pos h, if_pos ⟨h15', hok, h⟩]
          · rw [if_neg h, if_neg (fun h' => h h'.2.2)]
        have H1 := Lib.hid (⟨rA, rB, hbA, hbB, hp, he1, hv, he2, hne, b1, hB1⟩ : _ ∧ _ ∧ _ ∧ _ ∧ _ ∧ _ ∧ _ ∧ _ ∧ _ ∧ _ ∧ _)
        have Hrec := Lib.hid hrec
        have Hct := Lib.hid hct
        clear rA rB hbA hbB hp he1 hv he2 hne b1 hB1 hrec hb1 hcellt hrt hok hq hr15 b0 hB0 e11 e11' h15'
        go_wp2_with fail
        refine (tlong_any _ 5 _ _ w1 H1.out.1 H1.out.2.2.1 (by have := Hct.out; omega) (by omega) H1.out.2.2.2.2.1 H1.out.2.2.2.2.2.1).mono ?_
        rintro r w2 ⟨⟨A', n', c', rfl⟩, hb2⟩
        have b2 := H1.out.2.2.2.2.2.2.2.2.2.1.below hb2
        have hB2 := H1.out.2.2.2.2.2.2.2.2.2.2.trans (hb2.mono H1.out.2.2.2.2.2.2.2.2.2.2.size)
        have rB2 := H1.out.2.1.on hb2 hb2.size
        have c5 := (hb2.cell (p := ⟨bt, ot + 5, none⟩) hbt).trans c5
        have f0 := b2.frozen 0
        have f1 := b2.frozen 1
        obtain ⟨d0, d1, d2⟩ := b2.cells
        have hne := H1.out.2.2.2.2.2.2.2.2.1
        have hne' : ¬ z = bt := fun e => hne e.symm
        have b3 := (b2.s0 p).s1 q
        have hB3 := (hB2.setCell (p := ⟨z, 0, none⟩) (show w.heap.size ≤ z by have := Hz.out; omega) (.int .i64 p)).setCell (p := ⟨z, 1, none⟩) (show w.heap.size ≤ z by have := Hz.out; omega) (.int .i64 q)
        have rB3 := rd_set (i := 1) (rd_set (i := 0) rB2 (Nat.le_refl _) hne (.int .i64 p)) (Nat.le_refl _) hne (.int .i64 q)
        obtain ⟨w3, hw3⟩ : ∃ w3, w3 = (w2.setCell ⟨z, 0, none⟩ (.int .i64 p)).setCell ⟨z, 1, none⟩ (.int .i64 q) := ⟨_, rfl⟩
        rw [← hw3] at b3 hB3 rB3
        have H3 := Lib.hid (⟨b3, hB3, rB3, hw3⟩ : _ ∧ _ ∧ _ ∧ _)
        clear b2 hB2 rB2 b3 hB3 rB3 hb2 hne
        go_wp2_with fail
        rw [← hw3]
        clear hw3 f0 f1 d0 d1 d2 c5
        refine (tlong_any _ 5 _ _ w3 H3.out.2.2.1 H1.out.2.2.2.1 (by have := Hct.out; omega) (by omega) H1.out.2.2.2.2.2.2.1 H1.out.2.2.2.2.2.2.2.1).mono ?_
        rintro r w4 ⟨⟨A'', n'', c'', rfl⟩, hb4⟩
        have b4 := H3.out.1.below hb4
        have hB4 := H3.out.2.1.trans (hb4.mono H3.out.2.1.size)
        have f2 := b4.frozen 2
        obtain ⟨d0, d1, d2⟩ := b4.cells
        have b5 := b4.s2 v
        have hB5 := hB4.setCell (p := ⟨z, 2, none⟩) (show w.heap.size ≤ z by have := Hz.out; omega) (.int .i64 v)
        obtain ⟨g0, g1, g2⟩ := b5.cells
        have k0 := b5.frozen 0
        have k1 := b5.frozen 1
        have k2 := b5.frozen 2
        have H5 := Lib.hid (⟨b5, hB5⟩ : _ ∧ _)
        clear hb4 b4 hB4 b5 hB5
        by_cases h1 : e1 = 0
        · by_cases h2 : e2 = 0
          · subst h1 h2
            by_cases hR : RightP ⟨p, q, v⟩
            · have HR := Lib.hid (⟨hR, Hrec.out.trans (if_pos ⟨rfl, rfl, hR⟩)⟩ : _ ∧ _)
              have e1 := rightB_iff.2 hR
              clear hR
              go_wp2_with fail
              refine (right_any ⟨p, q, v⟩ _).mono ?_
              rintro r w6 ⟨rfl, hb6⟩
              rw [e1]
              have b6 := H5.out.1.below hb6
              have hB6 := H5.out.2.trans (hb6.mono H5.out.2.size)
              obtain ⟨m0, m1, m2⟩ := b6.cells
              have l0 := b6.frozen 0
              have l1 := b6.frozen 1
              have l2 := b6.frozen 2
              have H6 := Lib.hid (⟨b6, hB6⟩ : _ ∧ _)
              clear hb6 e1 b6 hB6 g0 g1 g2 k0 k1 k2 d0 d1 d2
              go_wp2_with fail
              simp only [Exit.jump]
              have b7 := ((H6.out.1.s0 p).s1 q).s2 v
              have hz := Hz.out.1
              have hB7 := ((H6.out.2.setCell (p := ⟨z, 0, none⟩) hz (.int .i64 p)).setCell (p := ⟨z, 1, none⟩) hz (.int .i64 q)).setCell (p := ⟨z, 2, none⟩) hz (.int .i64 v)
              obtain ⟨d0, d1, d2⟩ := b7.cells
              exact bodyPost_ret (v := .tuple #[.agg #[.int .i64 p, .int .i64 q, .int .i64 v], .bool true]) (by simp [results, Tryd.results40, go_sem, d0, d1, d2]) rfl ⟨by rw [HR.out.2]; rfl, hB7⟩
            · have HR := Lib.hid (Hrec.out.trans (if_neg (fun h => hR h.2.2)))
              have e1 := rightB_not.2 hR
              clear hR
              go_wp2_with fail
              refine (right_any ⟨p, q, v⟩ _).mono ?_
              rintro r w6 ⟨rfl, hb6⟩
              rw [e1]
              have H6 := Lib.hid (⟨H5.out.1.below hb6, H5.out.2.trans (hb6.mono H5.out.2.size)⟩ : _ ∧ _)
              clear hb6 e1
              go_wp2_with fail
              refine wp_goto ⟨rfl, _, _, _, _, _, _, _, _, _, _, _, _, _, _, _, _, _, _, _, _, _, _, _, _, _, _, _, _, _, _, _, _, _, _, _, _, _, _, _, _, _, _, _, _, _, _, _, _, _, _, _, _, H6.out.1, H6.out.2, HR.out, rfl⟩
          · have HR := Lib.hid (Hrec.out.trans (if_neg (fun h => h2 h.2.1)))
            have q2 : (e2 != 0) = true := by simpa using h2
            subst h1
            clear h2
            go_wp2_with fail
            refine wp_goto ⟨rfl, _, _, _, _, _, _, _, _, _, _, _, _, _, _, _, _, _, _, _, _, _, _, _, _, _, _, _, _, _, _, _, _, _, _, _, _, _, _, _, _, _, _, _, _, _, _, _, _, _, _, _, _, H5.out.1, H5.out.2, HR.out, rfl⟩
        · have HR := Lib.hid (Hrec.out.trans (if_neg (fun h => h1 h.1)))
          have q1 : (e1 != 0) = true := by simpa using h1
          clear h1
          go_wp2_with fail
          refine wp_goto ⟨rfl, _, _, _, _, _, _, _, _, _, _, _, _, _, _, _, _, _, _, _, _, _, _, _, _, _, _, _, _, _, _, _, _, _, _, _, _, _, _, _, _, _, _, _, _, _, _, _, _, _, _, _, _, H5.out.1, H5.out.2, HR.out, rfl⟩
  case pass =>
    rintro a' wr ⟨u0, u1, u3, u4, u5, u6, u7, u8, u9, u10, u11, u12, u13, u14, u15, u16, u17, u18, u19, u20, u21, u22, u23, u24, u25, u26, u27, u28, u29, u30, u31, u32, u33, u34, u35, u36, u37, u38, u39, u40, u41, u42, u43, u44, u45, u46, u47, u48, u49, u50, u51, x, b1, hB1, hno, rfl⟩
    obtain ⟨c0, c1, c2⟩ := b1.cells
    have f0 := b1.frozen 0
    have f1 := b1.frozen 1
    have f2 := b1.frozen 2
    have H := Lib.hid (⟨b1, hB1, hno⟩ : _ ∧ _ ∧ _)
    clear b1 hB1 hno
    go_wp2_with fail
    simp only [Exit.jump]
    have b3 := ((H.out.1.s0 0).s1 0).s2 0
    have hz := Hz.out.1
    have hB3 := ((H.out.2.1.setCell (p := ⟨z, 0, none⟩) hz (.int .i64 0)).setCell (p := ⟨z, 1, none⟩) hz (.int .i64 0)).setCell (p := ⟨z, 2, none⟩) hz (.int .i64 0)
    obtain ⟨d0, d1, d2⟩ := b3.cells
    exact bodyPost_ret (v := .tuple #[.agg #[.int .i64 0, .int .i64 0, .int .i64 0], .bool false]) (by simp [results, Tryd.results40, go_sem, d0, d1, d2]) rfl ⟨by rw [H.out.2.2]; rfl, hB3⟩

end Go.Proofs.YtlblfpfdebmcgaaDoor
