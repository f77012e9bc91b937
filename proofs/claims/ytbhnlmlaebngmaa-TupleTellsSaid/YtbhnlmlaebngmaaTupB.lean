/-
  Package tuple: mustBe, Right: their contracts.
-/
import Derived.Test.YtbhnlmlaebngmaaTupV
import Derived.Test.YtbhnlmlaebngmaaTupF
import Derived.Deep.DeepCutAuto
namespace Go.Proofs.Ytbhnlmlaebngmaa
open Go.RowKit Go.Shelf
set_option linter.unusedVariables false
set_option linter.unusedSimpArgs false
section
variable {P : Program} {ops : Array Oper} {Q : Exit → Act → World → Prop} {md : Region.Mode} {S : World → Prop}
/-- A call within a region that draws, which may panic. -/
theorem call_atX {i d : Nat} {oi : Oper} {fuel : Nat} {listed : Array Bool} {T : List Value} {ds : List Deferred} {w : World} {f : FuncId} {args : Array Value} (hi : ops[i]? = some oi) (hd : oi.dst = some d)
    (hr : Region.ready md ops listed = [i]) (hw : Region.wanted oi (yielded ops T.toArray) = true)
    (he : (execOp (Act.mk T.toArray ds).eval oi).run P w = .ok (.enter f args) w)
    (hc : Calls P f args w fun e w' => (∃ v, e = .returned v ∧ S w' ∧ (S w' → wpAnyH P md ops Q S fuel (listed.setIfInBounds i true) ⟨(T.set d v).toArray, ds⟩ w')) ∨ (∃ ch, e = .panicked ch ∧ Q (.panic ch) ⟨T.toArray, ds⟩ w')) :
    wpAnyH P md ops Q S (fuel + 1) listed ⟨T.toArray, ds⟩ w := by
  refine wpAnyH_ready hr (by simp) (AllReadyH.cons hi (fun K hK => ?_) AllReadyH.nil)
  rw [if_pos hw]
  unfold Oper.wp
  rw [he, Oper.upon_enter]
  refine hc.mono ?_
  rintro e w' (⟨v, rfl, hS, hn⟩ | ⟨ch, rfl, hq⟩)
  · rw [hd]
    refine hK.out _ _ hS (fun hS => ?_)
    simpa [Act.put] using hn hS
  · exact hq
end
/-- What mustBe answers. -/
def BeOut (t : TupP) (w : World) (e : Ending) (w' : World) : Prop := ((MayT t ∧ e = .returned (.tuple #[])) ∨ (¬ MayT t ∧ e = .panicked fellL)) ∧ Below w.heap.size w w'
theorem may_of {t : TupP} (h0 : FineP t.sn) (h1 : t.sn.ix ≤ 1073740824) (h2 : t.lg.length ≤ 200) (h3 : 0 ≤ t.vt) (h4 : t.vt ≤ 5) (h5 : t.tm ≤ 1073741824) (hF : FollowP t.sn.tm t.lg) (h6 : lastTm t.sn.tm t.lg ≤ t.tm) (hn : 0 ≤ t.sn.tm) : MayT t :=
  ⟨h0, h1, h2, ⟨h3, h4⟩, hF.1, hF.2, h6, Int.le_trans hn (Int.le_trans (rise_last hF.2) h6), h5⟩
theorem fine_term {s : StP} (h : FineP s) : 0 ≤ s.tm := by
  unfold FineP at h
  omega
set_option maxRecDepth 100000 in
set_option maxHeartbeats 8000000 in
theorem be_any (t : TupP) (A : Option Addr) (n c : Nat) (w : World) (hS : Es w w.heap.size A n t.lg) (hn : n ≤ 1000000) :
    Calls Try.prog 55 #[tupV t (.slice A n c)] w (BeOut t w) := by
  have Hl := Lib.hid hS.len
  obtain ⟨z1, hz1⟩ : ∃ z, z = w.heap.size := ⟨_, rfl⟩
  obtain ⟨w1, hw1⟩ : ∃ x, x = w.alloc (.cells #[.int .i64 t.sn.ix, .int .i64 t.sn.tm, .int .i64 t.sn.sm, .int .i64 t.sn.lv, .bool t.sn.fn, .slice A n c, .int .i64 t.tm, .int .i64 t.vt] 26) := ⟨_, rfl⟩
  have bb : Below w.heap.size w w1 := by rw [hw1]; exact below_al (below_d0 _) _
  have bz : BoxU w1 z1 t (.slice A n c) := by rw [hw1, hz1]; exact BoxU.new w t _
  replace hS := hS.on bb bb.size
  have B1 := bb
  clear bb
  have HE := Lib.hid (⟨hw1, hz1⟩ : _ ∧ _)
  clear hw1 hz1  
  unfold tupV
  go_enter Try.func55, Try.ntmps55
  go_wp2_with fail
  rw [← HE.out.1, ← HE.out.2]
  clear HE
  refine Calls.mono (show Calls Try.prog 66 #[.agg #[.int .i64 t.sn.ix, .int .i64 t.sn.tm, .int .i64 t.sn.sm, .int .i64 t.sn.lv, .bool t.sn.fn]] w1 (fun r w' => r = .returned (.bool (fineB t.sn)) ∧ Below w1.heap.size w1 w') from fine_any t.sn w1) ?_
  intro e w2 hh
  obtain ⟨rfl, bb⟩ := hh
  (try clear hh)
  replace bz := bz.below bb
  replace hS := hS.on bb bb.size
  have B2 := B1.trans (bb.mono B1.size)
  clear bb B1
  cases hf : fineB t.sn with
    | false =>
      have HN := Lib.hid (show ¬ MayT t from fun h => by rw [fineB_iff.2 h.fine] at hf; cases hf)
      clear hf
      obtain ⟨k0, k1, k2, k3, k4, k5, k6, k7⟩ := bz.cells
      go_wp2_with fail
      clear k0 k1 k2 k3 k4 k5 k6 k7
      refine Calls.mono (must_no w2) ?_
      intro e wv hh
      obtain ⟨rfl, hwv⟩ := hh
      replace hwv := hwv.symm
      subst hwv
      exact ⟨rfl, .inr ⟨HN.out, rfl⟩, B2⟩
    | true =>
      have HF := Lib.hid (fineB_iff.1 hf)
      clear hf
      by_cases hc : t.sn.ix ≤ 1073740824
      · have q1 : decide (t.sn.ix ≤ (1073740824 : Int)) = true := decide_eq_true hc
        have HC1 := Lib.hid hc
        clear hc
        obtain ⟨k0, k1, k2, k3, k4, k5, k6, k7⟩ := bz.cells
        go_wp2_with fail
        clear k0 k1 k2 k3 k4 k5 k6 k7
        refine Calls.mono (must_yes w2) ?_
        intro e wv hh
        obtain ⟨rfl, hwv⟩ := hh
        replace hwv := hwv.symm
        subst hwv
        clear q1
        by_cases hc : (n : Int) ≤ 200
        · have q1 : decide ((n : Int) ≤ (200 : Int)) = true := decide_eq_true hc
          have HC2 := Lib.hid hc
          clear hc
          have q2 : decide (n ≤ 200) = decide ((n : Int) ≤ (200 : Int)) := by simp; omega
          rw [q1] at q2
          obtain ⟨k0, k1, k2, k3, k4, k5, k6, k7⟩ := bz.cells
          go_wp2_with fail
          clear k0 k1 k2 k3 k4 k5 k6 k7
          refine Calls.mono (must_yes w2) ?_
          intro e wv hh
          obtain ⟨rfl, hwv⟩ := hh
          replace hwv := hwv.symm
          subst hwv
          clear q1 q2
          by_cases hc : (0 : Int) ≤ t.vt
          · have q0 : decide ((0 : Int) ≤ t.vt) = true := decide_eq_true hc
            have HC3 := Lib.hid hc
            clear hc
            by_cases hc : t.vt ≤ 5
            · have q1 : decide (t.vt ≤ (5 : Int)) = true := decide_eq_true hc
              have HC4 := Lib.hid hc
              clear hc
              skip
              obtain ⟨k0, k1, k2, k3, k4, k5, k6, k7⟩ := bz.cells
              go_wp2_with fail
              clear k0 k1 k2 k3 k4 k5 k6 k7
              refine Calls.mono (must_yes w2) ?_
              intro e wv hh
              obtain ⟨rfl, hwv⟩ := hh
              replace hwv := hwv.symm
              subst hwv
              clear q0 q1
              by_cases hc : t.tm ≤ 1073741824
              · have q1 : decide (t.tm ≤ (1073741824 : Int)) = true := decide_eq_true hc
                have HC5 := Lib.hid hc
                clear hc
                go_upto_region 4 with fail
                have hDb : BoxU w2.drew z1 t (.slice A n c) := bz
                have kbn : Below w2.heap.size w2 w2.drew := (Below.refl _ _).drew
                refine wp_region_held_drew (S := (fun X => BoxU X z1 t (.slice A n c))) (by kernel_rfl) hDb (fun hHeld => ?_)
                refine take_at (i := 0) (d := 26) (oi := ?o16) (v := ?v16) ?hi16 ?hd16 (by kernel_rfl) (by kernel_rfl) (by kernel_rfl) ?hw16 ?hy16 ?hq16 (by assumption) ?r16
                case hi16 => (simp only [List.getElem?_toArray, List.getElem?_cons_zero]; rfl)
                case hd16 => rfl
                case hw16 => rfl
                case hy16 => ((intro w hSw; (try dsimp only at hSw); obtain ⟨s0, s1, s2, s3, s4, s5, s6, s7⟩ := BoxU.cells hSw; go_simp) <;> (with_reducible rfl))
                case hq16 => exact fun _ _ _ h => h
                simp only [List.set_cons_succ, List.set_cons_zero]
                refine take_at (i := 1) (d := 27) (oi := ?o17) (v := ?v17) ?hi17 ?hd17 (by kernel_rfl) (by kernel_rfl) (by kernel_rfl) ?hw17 ?hy17 ?hq17 (by assumption) ?r17
                case hi17 => (simp only [List.getElem?_toArray, List.getElem?_cons_succ, List.getElem?_cons_zero]; rfl)
                case hd17 => rfl
                case hw17 => rfl
                case hy17 => ((intro w hSw; (try dsimp only at hSw); obtain ⟨s0, s1, s2, s3, s4, s5, s6, s7⟩ := BoxU.cells hSw; go_simp) <;> (with_reducible rfl))
                case hq17 => exact fun _ _ _ h => h
                simp only [List.set_cons_succ, List.set_cons_zero]
                refine take_at (i := 2) (d := 28) (oi := ?o18) (v := ?v18) ?hi18 ?hd18 (by kernel_rfl) (by kernel_rfl) (by kernel_rfl) ?hw18 ?hy18 ?hq18 (by assumption) ?r18
                case hi18 => (simp only [List.getElem?_toArray, List.getElem?_cons_succ, List.getElem?_cons_zero]; rfl)
                case hd18 => rfl
                case hw18 => rfl
                case hy18 => ((intro w hSw; (try dsimp only at hSw); obtain ⟨s0, s1, s2, s3, s4, s5, s6, s7⟩ := BoxU.cells hSw; go_simp) <;> (with_reducible rfl))
                case hq18 => exact fun _ _ _ h => h
                simp only [List.set_cons_succ, List.set_cons_zero]
                refine take_at (i := 3) (d := 29) (oi := ?o19) (v := ?v19) ?hi19 ?hd19 (by kernel_rfl) (by kernel_rfl) (by kernel_rfl) ?hw19 ?hy19 ?hq19 (by assumption) ?r19
                case hi19 => (simp only [List.getElem?_toArray, List.getElem?_cons_succ, List.getElem?_cons_zero]; rfl)
                case hd19 => rfl
                case hw19 => rfl
                case hy19 => ((intro w hSw; (try dsimp only at hSw); obtain ⟨s0, s1, s2, s3, s4, s5, s6, s7⟩ := BoxU.cells hSw; go_simp) <;> (with_reducible rfl))
                case hq19 => exact fun _ _ _ h => h
                simp only [List.set_cons_succ, List.set_cons_zero]
                refine take_at (i := 4) (d := 30) (oi := ?o20) (v := ?v20) ?hi20 ?hd20 (by kernel_rfl) (by kernel_rfl) (by kernel_rfl) ?hw20 ?hy20 ?hq20 (by assumption) ?r20
                case hi20 => (simp only [List.getElem?_toArray, List.getElem?_cons_succ, List.getElem?_cons_zero]; rfl)
                case hd20 => rfl
                case hw20 => rfl
                case hy20 => ((intro w hSw; (try dsimp only at hSw); obtain ⟨s0, s1, s2, s3, s4, s5, s6, s7⟩ := BoxU.cells hSw; go_simp) <;> (with_reducible rfl))
                case hq20 => exact fun _ _ _ h => h
                simp only [List.set_cons_succ, List.set_cons_zero]
                refine take_at (i := 5) (d := 31) (oi := ?o21) (v := ?v21) ?hi21 ?hd21 (by kernel_rfl) (by kernel_rfl) (by kernel_rfl) ?hw21 ?hy21 ?hq21 (by assumption) ?r21
                case hi21 => (simp only [List.getElem?_toArray, List.getElem?_cons_succ, List.getElem?_cons_zero]; rfl)
                case hd21 => rfl
                case hw21 => rfl
                case hy21 => ((intro w hSw; (try dsimp only at hSw); obtain ⟨s0, s1, s2, s3, s4, s5, s6, s7⟩ := BoxU.cells hSw; go_simp) <;> (with_reducible rfl))
                case hq21 => exact fun _ _ _ h => h
                simp only [List.set_cons_succ, List.set_cons_zero]
                refine take_at (i := 6) (d := 32) (oi := ?o22) (v := ?v22) ?hi22 ?hd22 (by kernel_rfl) (by kernel_rfl) (by kernel_rfl) ?hw22 ?hy22 ?hq22 (by assumption) ?r22
                case hi22 => (simp only [List.getElem?_toArray, List.getElem?_cons_succ, List.getElem?_cons_zero]; rfl)
                case hd22 => rfl
                case hw22 => rfl
                case hy22 => ((intro w hSw; (try dsimp only at hSw); obtain ⟨s0, s1, s2, s3, s4, s5, s6, s7⟩ := BoxU.cells hSw; go_simp) <;> (with_reducible rfl))
                case hq22 => exact fun _ _ _ h => h
                simp only [List.set_cons_succ, List.set_cons_zero]
                refine take_at (i := 7) (d := 33) (oi := ?o23) (v := ?v23) ?hi23 ?hd23 (by kernel_rfl) (by kernel_rfl) (by kernel_rfl) ?hw23 ?hy23 ?hq23 (by assumption) ?r23
                case hi23 => (simp only [List.getElem?_toArray, List.getElem?_cons_succ, List.getElem?_cons_zero]; rfl)
                case hd23 => rfl
                case hw23 => rfl
                case hy23 => ((intro w hSw; (try dsimp only at hSw); obtain ⟨s0, s1, s2, s3, s4, s5, s6, s7⟩ := BoxU.cells hSw; go_simp) <;> (with_reducible rfl))
                case hq23 => exact fun _ _ _ h => h
                simp only [List.set_cons_succ, List.set_cons_zero]
                refine take_at (i := 8) (d := 34) (oi := ?o24) (v := ?v24) ?hi24 ?hd24 (by kernel_rfl) (by kernel_rfl) (by kernel_rfl) ?hw24 ?hy24 ?hq24 (by assumption) ?r24
                case hi24 => (simp only [List.getElem?_toArray, List.getElem?_cons_succ, List.getElem?_cons_zero]; rfl)
                case hd24 => rfl
                case hw24 => rfl
                case hy24 => ((intro w hSw; (try dsimp only at hSw); obtain ⟨s0, s1, s2, s3, s4, s5, s6, s7⟩ := BoxU.cells hSw; go_simp) <;> (with_reducible rfl))
                case hq24 => exact fun _ _ _ h => h
                simp only [List.set_cons_succ, List.set_cons_zero]
                refine take_at (i := 9) (d := 35) (oi := ?o25) (v := ?v25) ?hi25 ?hd25 (by kernel_rfl) (by kernel_rfl) (by kernel_rfl) ?hw25 ?hy25 ?hq25 (by assumption) ?r25
                case hi25 => (simp only [List.getElem?_toArray, List.getElem?_cons_succ, List.getElem?_cons_zero]; rfl)
                case hd25 => rfl
                case hw25 => rfl
                case hy25 => ((intro w hSw; (try dsimp only at hSw); obtain ⟨s0, s1, s2, s3, s4, s5, s6, s7⟩ := BoxU.cells hSw; go_simp) <;> (with_reducible rfl))
                case hq25 => exact fun _ _ _ h => h
                simp only [List.set_cons_succ, List.set_cons_zero]
                refine take_at (i := 10) (d := 36) (oi := ?o26) (v := ?v26) ?hi26 ?hd26 (by kernel_rfl) (by kernel_rfl) (by kernel_rfl) ?hw26 ?hy26 ?hq26 (by assumption) ?r26
                case hi26 => (simp only [List.getElem?_toArray, List.getElem?_cons_succ, List.getElem?_cons_zero]; rfl)
                case hd26 => rfl
                case hw26 => rfl
                case hy26 => ((intro w hSw; (try dsimp only at hSw); obtain ⟨s0, s1, s2, s3, s4, s5, s6, s7⟩ := BoxU.cells hSw; go_simp) <;> (with_reducible rfl))
                case hq26 => exact fun _ _ _ h => h
                simp only [List.set_cons_succ, List.set_cons_zero]
                refine call_atX (i := 11) (d := 37) (oi := ?o27) (f := ?f27) (args := ?a27) ?hi27 ?hd27 (by kernel_rfl) ?hw27 ?he27 ?hc27
                case hi27 => (simp only [List.getElem?_toArray, List.getElem?_cons_succ, List.getElem?_cons_zero]; rfl)
                case hd27 => rfl
                case hw27 => rfl
                case he27 => (go_simp; constructor <;> with_reducible rfl)
                refine Calls.mono (follow_any t.sn.tm A n c t.lg w2.drew (hS.on kbn kbn.size) (by omega)) ?_
                rintro e wf ⟨⟨hF, rfl⟩ | ⟨hF, rfl⟩, hb⟩
                rotate_left
                · exact .inr ⟨_, rfl, rfl, .inr ⟨fun h => hF ⟨h.ents, h.rise⟩, rfl⟩, B2.trans ((kbn.trans hb).mono B2.size)⟩
                have Bf : Below w.heap.size w wf := B2.trans ((kbn.trans hb).mono B2.size)
                have bzf := hDb.below hb
                refine .inl ⟨_, rfl, bzf, fun hHeld => ?_⟩
                simp only [List.set_cons_succ, List.set_cons_zero]
                have Hf := Lib.hid hF
                clear hF
                by_cases hc : lastTm t.sn.tm t.lg ≤ t.tm
                · have q1 : decide (lastTm t.sn.tm t.lg ≤ t.tm) = true := decide_eq_true hc
                  have HC := Lib.hid hc
                  clear hc
                  refine take_at (i := 12) (d := 38) (oi := ?o28) (v := ?v28) ?hi28 ?hd28 (by kernel_rfl) (by kernel_rfl) (by kernel_rfl) ?hw28 ?hy28 ?hq28 (by assumption) ?r28
                  case hi28 => (simp only [List.getElem?_toArray, List.getElem?_cons_succ, List.getElem?_cons_zero]; rfl)
                  case hd28 => rfl
                  case hw28 => rfl
                  case hy28 => ((intro w hSw; (try dsimp only at hSw); obtain ⟨s0, s1, s2, s3, s4, s5, s6, s7⟩ := BoxU.cells hSw; go_simp) <;> (with_reducible rfl))
                  case hq28 => exact fun _ _ _ h => h
                  simp only [List.set_cons_succ, List.set_cons_zero]
                  refine take_at (i := 13) (d := 39) (oi := ?o29) (v := ?v29) ?hi29 ?hd29 (by kernel_rfl) (by kernel_rfl) (by kernel_rfl) ?hw29 ?hy29 ?hq29 (by assumption) ?r29
                  case hi29 => (simp only [List.getElem?_toArray, List.getElem?_cons_succ, List.getElem?_cons_zero]; rfl)
                  case hd29 => rfl
                  case hw29 => rfl
                  case hy29 => ((intro w hSw; (try dsimp only at hSw); obtain ⟨s0, s1, s2, s3, s4, s5, s6, s7⟩ := BoxU.cells hSw; go_simp) <;> (with_reducible rfl))
                  case hq29 => exact fun _ _ _ h => h
                  simp only [List.set_cons_succ, List.set_cons_zero]
                  refine call_atX (i := 14) (d := 40) (oi := ?o33) (f := ?f33) (args := ?a33) ?hi33 ?hd33 (by kernel_rfl) ?hw33 ?he33 ?hc33
                  case hi33 => (simp only [List.getElem?_toArray, List.getElem?_cons_succ, List.getElem?_cons_zero]; rfl)
                  case hd33 => rfl
                  case hw33 => rfl
                  case he33 => (go_simp; constructor <;> with_reducible rfl)
                  refine Calls.mono (must_yes wf) ?_
                  rintro e wv ⟨rfl, hwv⟩
                  replace hwv := hwv.symm
                  subst hwv
                  refine .inl ⟨_, rfl, bzf, fun hHeld => ?_⟩
                  simp only [List.set_cons_succ, List.set_cons_zero]
                  refine wpAnyH_done (by kernel_rfl) ?_ _
                  go_end0
                  exact ⟨.inl ⟨may_of HF.out HC1.out (by have := Hl.out; have := HC2.out; omega) HC3.out HC4.out HC5.out Hf.out HC.out (fine_term HF.out), rfl⟩, Bf⟩
                · have q1 : decide (lastTm t.sn.tm t.lg ≤ t.tm) = false := decide_eq_false hc
                  have HC := Lib.hid hc
                  clear hc
                  refine take_at (i := 12) (d := 38) (oi := ?o30) (v := ?v30) ?hi30 ?hd30 (by kernel_rfl) (by kernel_rfl) (by kernel_rfl) ?hw30 ?hy30 ?hq30 (by assumption) ?r30
                  case hi30 => (simp only [List.getElem?_toArray, List.getElem?_cons_succ, List.getElem?_cons_zero]; rfl)
                  case hd30 => rfl
                  case hw30 => rfl
                  case hy30 => ((intro w hSw; (try dsimp only at hSw); obtain ⟨s0, s1, s2, s3, s4, s5, s6, s7⟩ := BoxU.cells hSw; go_simp) <;> (with_reducible rfl))
                  case hq30 => exact fun _ _ _ h => h
                  simp only [List.set_cons_succ, List.set_cons_zero]
                  refine take_at (i := 13) (d := 39) (oi := ?o31) (v := ?v31) ?hi31 ?hd31 (by kernel_rfl) (by kernel_rfl) (by kernel_rfl) ?hw31 ?hy31 ?hq31 (by assumption) ?r31
                  case hi31 => (simp only [List.getElem?_toArray, List.getElem?_cons_succ, List.getElem?_cons_zero]; rfl)
                  case hd31 => rfl
                  case hw31 => rfl
                  case hy31 => ((intro w hSw; (try dsimp only at hSw); obtain ⟨s0, s1, s2, s3, s4, s5, s6, s7⟩ := BoxU.cells hSw; go_simp) <;> (with_reducible rfl))
                  case hq31 => exact fun _ _ _ h => h
                  simp only [List.set_cons_succ, List.set_cons_zero]
                  refine call_atX (i := 14) (d := 40) (oi := ?o32) (f := ?f32) (args := ?a32) ?hi32 ?hd32 (by kernel_rfl) ?hw32 ?he32 ?hc32
                  case hi32 => (simp only [List.getElem?_toArray, List.getElem?_cons_succ, List.getElem?_cons_zero]; rfl)
                  case hd32 => rfl
                  case hw32 => rfl
                  case he32 => (go_simp; constructor <;> with_reducible rfl)
                  refine Calls.mono (must_no wf) ?_
                  rintro e wv ⟨rfl, hwv⟩
                  replace hwv := hwv.symm
                  subst hwv
                  exact .inr ⟨_, rfl, rfl, .inr ⟨fun h => absurd h.tm.1 (by have := HC.out; omega), rfl⟩, Bf⟩
              · have q1 : decide (t.tm ≤ (1073741824 : Int)) = false := decide_eq_false hc
                have HN := Lib.hid (show ¬ MayT t from fun h => hc h.tm.2.2)
                clear hc
                go_upto_region 4 with fail
                have hDb : BoxU w2.drew z1 t (.slice A n c) := bz
                have kbn : Below w2.heap.size w2 w2.drew := (Below.refl _ _).drew
                refine wp_region_held_drew (S := (fun X => BoxU X z1 t (.slice A n c))) (by kernel_rfl) hDb (fun hHeld => ?_)
                refine take_at (i := 0) (d := 26) (oi := ?o1) (v := ?v1) ?hi1 ?hd1 (by kernel_rfl) (by kernel_rfl) (by kernel_rfl) ?hw1 ?hy1 ?hq1 (by assumption) ?r1
                case hi1 => (simp only [List.getElem?_toArray, List.getElem?_cons_zero]; rfl)
                case hd1 => rfl
                case hw1 => rfl
                case hy1 => ((intro w hSw; (try dsimp only at hSw); obtain ⟨s0, s1, s2, s3, s4, s5, s6, s7⟩ := BoxU.cells hSw; go_simp) <;> (with_reducible rfl))
                case hq1 => exact fun _ _ _ h => h
                simp only [List.set_cons_succ, List.set_cons_zero]
                refine take_at (i := 1) (d := 27) (oi := ?o2) (v := ?v2) ?hi2 ?hd2 (by kernel_rfl) (by kernel_rfl) (by kernel_rfl) ?hw2 ?hy2 ?hq2 (by assumption) ?r2
                case hi2 => (simp only [List.getElem?_toArray, List.getElem?_cons_succ, List.getElem?_cons_zero]; rfl)
                case hd2 => rfl
                case hw2 => rfl
                case hy2 => ((intro w hSw; (try dsimp only at hSw); obtain ⟨s0, s1, s2, s3, s4, s5, s6, s7⟩ := BoxU.cells hSw; go_simp) <;> (with_reducible rfl))
                case hq2 => exact fun _ _ _ h => h
                simp only [List.set_cons_succ, List.set_cons_zero]
                refine take_at (i := 2) (d := 28) (oi := ?o3) (v := ?v3) ?hi3 ?hd3 (by kernel_rfl) (by kernel_rfl) (by kernel_rfl) ?hw3 ?hy3 ?hq3 (by assumption) ?r3
                case hi3 => (simp only [List.getElem?_toArray, List.getElem?_cons_succ, List.getElem?_cons_zero]; rfl)
                case hd3 => rfl
                case hw3 => rfl
                case hy3 => ((intro w hSw; (try dsimp only at hSw); obtain ⟨s0, s1, s2, s3, s4, s5, s6, s7⟩ := BoxU.cells hSw; go_simp) <;> (with_reducible rfl))
                case hq3 => exact fun _ _ _ h => h
                simp only [List.set_cons_succ, List.set_cons_zero]
                refine take_at (i := 3) (d := 29) (oi := ?o4) (v := ?v4) ?hi4 ?hd4 (by kernel_rfl) (by kernel_rfl) (by kernel_rfl) ?hw4 ?hy4 ?hq4 (by assumption) ?r4
                case hi4 => (simp only [List.getElem?_toArray, List.getElem?_cons_succ, List.getElem?_cons_zero]; rfl)
                case hd4 => rfl
                case hw4 => rfl
                case hy4 => ((intro w hSw; (try dsimp only at hSw); obtain ⟨s0, s1, s2, s3, s4, s5, s6, s7⟩ := BoxU.cells hSw; go_simp) <;> (with_reducible rfl))
                case hq4 => exact fun _ _ _ h => h
                simp only [List.set_cons_succ, List.set_cons_zero]
                refine skip_at (i := 4) (d := 30) (oi := ?o5) ?hi5 ?hd5 (by kernel_rfl) (by kernel_rfl) (by kernel_rfl) ?hw5 ?hq5 (by assumption) ?r5
                case hi5 => (simp only [List.getElem?_toArray, List.getElem?_cons_succ, List.getElem?_cons_zero]; rfl)
                case hd5 => rfl
                case hw5 => rfl
                case hq5 => exact fun _ _ _ h => h
                simp only [List.set_cons_succ, List.set_cons_zero]
                refine skip_at (i := 5) (d := 31) (oi := ?o6) ?hi6 ?hd6 (by kernel_rfl) (by kernel_rfl) (by kernel_rfl) ?hw6 ?hq6 (by assumption) ?r6
                case hi6 => (simp only [List.getElem?_toArray, List.getElem?_cons_succ, List.getElem?_cons_zero]; rfl)
                case hd6 => rfl
                case hw6 => rfl
                case hq6 => exact fun _ _ _ h => h
                simp only [List.set_cons_succ, List.set_cons_zero]
                refine skip_at (i := 6) (d := 32) (oi := ?o7) ?hi7 ?hd7 (by kernel_rfl) (by kernel_rfl) (by kernel_rfl) ?hw7 ?hq7 (by assumption) ?r7
                case hi7 => (simp only [List.getElem?_toArray, List.getElem?_cons_succ, List.getElem?_cons_zero]; rfl)
                case hd7 => rfl
                case hw7 => rfl
                case hq7 => exact fun _ _ _ h => h
                simp only [List.set_cons_succ, List.set_cons_zero]
                refine skip_at (i := 7) (d := 33) (oi := ?o8) ?hi8 ?hd8 (by kernel_rfl) (by kernel_rfl) (by kernel_rfl) ?hw8 ?hq8 (by assumption) ?r8
                case hi8 => (simp only [List.getElem?_toArray, List.getElem?_cons_succ, List.getElem?_cons_zero]; rfl)
                case hd8 => rfl
                case hw8 => rfl
                case hq8 => exact fun _ _ _ h => h
                simp only [List.set_cons_succ, List.set_cons_zero]
                refine skip_at (i := 8) (d := 34) (oi := ?o9) ?hi9 ?hd9 (by kernel_rfl) (by kernel_rfl) (by kernel_rfl) ?hw9 ?hq9 (by assumption) ?r9
                case hi9 => (simp only [List.getElem?_toArray, List.getElem?_cons_succ, List.getElem?_cons_zero]; rfl)
                case hd9 => rfl
                case hw9 => rfl
                case hq9 => exact fun _ _ _ h => h
                simp only [List.set_cons_succ, List.set_cons_zero]
                refine skip_at (i := 9) (d := 35) (oi := ?o10) ?hi10 ?hd10 (by kernel_rfl) (by kernel_rfl) (by kernel_rfl) ?hw10 ?hq10 (by assumption) ?r10
                case hi10 => (simp only [List.getElem?_toArray, List.getElem?_cons_succ, List.getElem?_cons_zero]; rfl)
                case hd10 => rfl
                case hw10 => rfl
                case hq10 => exact fun _ _ _ h => h
                simp only [List.set_cons_succ, List.set_cons_zero]
                refine skip_at (i := 10) (d := 36) (oi := ?o11) ?hi11 ?hd11 (by kernel_rfl) (by kernel_rfl) (by kernel_rfl) ?hw11 ?hq11 (by assumption) ?r11
                case hi11 => (simp only [List.getElem?_toArray, List.getElem?_cons_succ, List.getElem?_cons_zero]; rfl)
                case hd11 => rfl
                case hw11 => rfl
                case hq11 => exact fun _ _ _ h => h
                simp only [List.set_cons_succ, List.set_cons_zero]
                refine skip_at (i := 11) (d := 37) (oi := ?o12) ?hi12 ?hd12 (by kernel_rfl) (by kernel_rfl) (by kernel_rfl) ?hw12 ?hq12 (by assumption) ?r12
                case hi12 => (simp only [List.getElem?_toArray, List.getElem?_cons_succ, List.getElem?_cons_zero]; rfl)
                case hd12 => rfl
                case hw12 => rfl
                case hq12 => exact fun _ _ _ h => h
                simp only [List.set_cons_succ, List.set_cons_zero]
                refine skip_at (i := 12) (d := 38) (oi := ?o13) ?hi13 ?hd13 (by kernel_rfl) (by kernel_rfl) (by kernel_rfl) ?hw13 ?hq13 (by assumption) ?r13
                case hi13 => (simp only [List.getElem?_toArray, List.getElem?_cons_succ, List.getElem?_cons_zero]; rfl)
                case hd13 => rfl
                case hw13 => rfl
                case hq13 => exact fun _ _ _ h => h
                simp only [List.set_cons_succ, List.set_cons_zero]
                refine take_at (i := 13) (d := 39) (oi := ?o14) (v := ?v14) ?hi14 ?hd14 (by kernel_rfl) (by kernel_rfl) (by kernel_rfl) ?hw14 ?hy14 ?hq14 (by assumption) ?r14
                case hi14 => (simp only [List.getElem?_toArray, List.getElem?_cons_succ, List.getElem?_cons_zero]; rfl)
                case hd14 => rfl
                case hw14 => rfl
                case hy14 => ((intro w hSw; (try dsimp only at hSw); obtain ⟨s0, s1, s2, s3, s4, s5, s6, s7⟩ := BoxU.cells hSw; go_simp) <;> (with_reducible rfl))
                case hq14 => exact fun _ _ _ h => h
                simp only [List.set_cons_succ, List.set_cons_zero]
                refine call_atX (i := 14) (d := 40) (oi := ?o15) (f := ?f15) (args := ?a15) ?hi15 ?hd15 (by kernel_rfl) ?hw15 ?he15 ?hc15
                case hi15 => (simp only [List.getElem?_toArray, List.getElem?_cons_succ, List.getElem?_cons_zero]; rfl)
                case hd15 => rfl
                case hw15 => rfl
                case he15 => (go_simp; constructor <;> with_reducible rfl)
                refine Calls.mono (must_no w2.drew) ?_
                rintro e wv ⟨rfl, rfl⟩
                exact .inr ⟨_, rfl, rfl, .inr ⟨HN.out, rfl⟩, B2.drew⟩
            · have q1 : decide (t.vt ≤ (5 : Int)) = false := decide_eq_false hc
              have HN := Lib.hid (show ¬ MayT t from fun h => hc h.vt.2)
              clear hc
              obtain ⟨k0, k1, k2, k3, k4, k5, k6, k7⟩ := bz.cells
              go_wp2_with fail
              clear k0 k1 k2 k3 k4 k5 k6 k7
              refine Calls.mono (must_no w2) ?_
              intro e wv hh
              obtain ⟨rfl, hwv⟩ := hh
              replace hwv := hwv.symm
              subst hwv
              exact ⟨rfl, .inr ⟨HN.out, rfl⟩, B2⟩
          · have q1 : decide ((0 : Int) ≤ t.vt) = false := decide_eq_false hc
            have HN := Lib.hid (show ¬ MayT t from fun h => hc h.vt.1)
            clear hc
            obtain ⟨k0, k1, k2, k3, k4, k5, k6, k7⟩ := bz.cells
            go_wp2_with fail
            clear k0 k1 k2 k3 k4 k5 k6 k7
            refine Calls.mono (must_no w2) ?_
            intro e wv hh
            obtain ⟨rfl, hwv⟩ := hh
            replace hwv := hwv.symm
            subst hwv
            exact ⟨rfl, .inr ⟨HN.out, rfl⟩, B2⟩
        · have q1 : decide ((n : Int) ≤ (200 : Int)) = false := decide_eq_false hc
          have HN := Lib.hid (show ¬ MayT t from fun h => hc (by have := h.few; have := Hl.out; omega))
          clear hc
          have q2 : decide (n ≤ 200) = decide ((n : Int) ≤ (200 : Int)) := by simp; omega
          rw [q1] at q2
          obtain ⟨k0, k1, k2, k3, k4, k5, k6, k7⟩ := bz.cells
          go_wp2_with fail
          clear k0 k1 k2 k3 k4 k5 k6 k7
          refine Calls.mono (must_no w2) ?_
          intro e wv hh
          obtain ⟨rfl, hwv⟩ := hh
          replace hwv := hwv.symm
          subst hwv
          exact ⟨rfl, .inr ⟨HN.out, rfl⟩, B2⟩
      · have q1 : decide (t.sn.ix ≤ (1073740824 : Int)) = false := decide_eq_false hc
        have HN := Lib.hid (show ¬ MayT t from fun h => hc h.ix)
        clear hc
        obtain ⟨k0, k1, k2, k3, k4, k5, k6, k7⟩ := bz.cells
        go_wp2_with fail
        clear k0 k1 k2 k3 k4 k5 k6 k7
        refine Calls.mono (must_no w2) ?_
        intro e wv hh
        obtain ⟨rfl, hwv⟩ := hh
        replace hwv := hwv.symm
        subst hwv
        exact ⟨rfl, .inr ⟨HN.out, rfl⟩, B2⟩
end Go.Proofs.Ytbhnlmlaebngmaa
