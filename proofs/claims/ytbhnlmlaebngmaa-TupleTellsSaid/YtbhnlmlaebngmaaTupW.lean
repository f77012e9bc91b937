/-
  moultlaw12.wakes returns true, whatever package tuple's contracts are proved by.
-/
import Derived.Test.YtbhnlmlaebngmaaTupV
namespace Go.Proofs.Ytbhnlmlaebngmaa
open Go.RowKit
set_option linter.unusedVariables false
set_option linter.unusedSimpArgs false

def kT : TupP := ⟨firstP, [], 3, 2⟩
def kU : TupP := ⟨firstP, dataL 2 [5, 6, 7], 3, 2⟩
def kV : TupP := ⟨firstP, dataL 2 [5, 6], 3, 2⟩
def kS : StP := ⟨1, 2, 6, 1, false⟩
def kW : TupP := ⟨kS, dataL 2 [6], 3, 2⟩
def kI : StP := ⟨9, 3, 0, 2, false⟩
def kX : TupP := ⟨kI, [], 3, 2⟩
theorem k1 : HardIs firstT 3 2 kT 0 := .inl ⟨.inl (by decide), by decide, by decide, rfl, rfl⟩
theorem k2 : AppendIs kT (dataL 2 [5, 6, 7]) kU 0 := .inl ⟨trivial, by decide, by decide, rfl, rfl⟩
theorem k3 : CutIs kU 3 kV 0 := .inl ⟨by decide, by decide, by decide, by decide, rfl⟩
theorem k4 : stateP kV 1 = some kS := by decide
theorem k5 : SaveIs kV kS kW 0 := .inl ⟨by decide, by decide, by decide, by decide, rfl⟩
theorem k6 : InstallIs kW kI kX 0 := .inr ⟨by decide, .inl ⟨by decide, by decide, by decide, by decide, rfl⟩⟩
theorem k7 : HardIs kT 3 1 kT 2 := .inr ⟨by decide, rfl, rfl⟩
theorem k8 : AppendIs kT (dataL 4 [1]) kT 2 := .inr ⟨by decide, rfl, rfl⟩
theorem k9 : termAtP kW 2 = some 2 := by decide
theorem mayX : MayIs kX true := mayYes (by decide)
theorem mayN : MayIs noneT false := mayNo (by decide)
/-- What the four operations of a region have come to, in whatever order. -/
structure Join12 (Wk : World) (V : Value → Value) (l : List EnP) (n : Nat) (x : Int) (v3 v4 v5 v6 v7 : Value) (W' : World) : Prop where
  ex : ∃ A c z, v3 = .tuple #[V (.slice A n c), .int .i64 x] ∧ v5 = .tuple #[V (.slice A n c), .int .i64 x] ∧ v6 = V (.slice A n c) ∧ v7 = .int .i64 x ∧ v4 = .pointer (some ⟨z, 0, none⟩) ∧ n ≤ c ∧ OwnF W' Wk.heap.size (.slice A n c) n l ∧ BoxU W' z noneT (.slice none 0 0) ∧ Wk.heap.size ≤ z ∧ Below Wk.heap.size Wk W'
theorem mid_of {i : Int} (h : -1099511627776 ≤ i ∧ i ≤ 1099511627776) : Mid i := h
/-- What is told is that one. -/
theorem name_lst12 {P : Program} {ops : Array Oper} {Q : Exit → Act → World → Prop} {md : Region.Mode} {S : World → Prop} {f : Nat} {l l' : Array Bool} {act : Act} {w : World} (e : l = l') (h : wpAnyH P md ops Q S f l' act w) : wpAnyH P md ops Q S f l act w := e ▸ h
theorem OutF.is {R : TupP → Int → Prop} {B : Nat} {w w' : World} {e : Ending} {t : TupP} {x : Int} {n : Nat} (h : OutF R B w e w') (hR : ∀ {o er}, R o er → o = t ∧ er = x) (hn : t.lg.length = n) :
    ∃ A c, e = .returned (.tuple #[tupV t (.slice A n c), .int .i64 x]) ∧ n ≤ c ∧ OwnF w' B (.slice A n c) n t.lg ∧ Below w.heap.size w w' := by
  obtain ⟨⟨o, er, A, m, c, rfl, h1, h2, h3⟩, hb⟩ := h
  obtain ⟨rfl, rfl⟩ := hR h1
  obtain rfl : m = n := (lenF h3).symm.trans hn
  exact ⟨A, c, rfl, h2, h3, hb⟩
set_option maxRecDepth 100000 in
set_option maxHeartbeats 16000000 in
theorem wakes12 (D : Dev12) (w : World) : Calls Try.prog 9 #[] w fun e w' => e = .returned (.bool true) ∧ Below w.heap.size w w' := by
  go_enter Try.func9, Try.ntmps9
  go_wp2_with fail
  refine Calls.mono (D.first w) ?_
  intro e w1 hh
  obtain ⟨⟨A0, n0, c0, rfl, hc0, own0⟩, bb⟩ := hh
  (try clear hh)
  have B1 := bb
  clear bb
  obtain rfl : n0 = 0 := (lenF own0).symm
  unfold tupV firstT firstP
  go_wp2_with fail
  refine Calls.mono (show Calls Try.prog 19 #[.agg #[.int .i64 0, .int .i64 0, .int .i64 0, .int .i64 1, .bool false, .slice A0 0 c0, .int .i64 0, .int .i64 0], .int .i64 3, .int .i64 2] w1 (OutF (HardIs firstT 3 2) w1.heap.size w1) from D.hard firstT A0 0 c0 3 2 w1 (OwnF.es own0) (by omega) hc0 (mid_of (by decide))) ?_
  intro e w2 hh
  obtain ⟨A1, c1, rfl, hc1, own1, bb⟩ := OutF.is (x := 0) (n := 0) hh (fun h => ToldIs.same h k1) (by rfl)
  (try clear hh)
  replace own0 := keepF own0 bb
  have B2 := B1.trans (bb.mono B1.size)
  clear bb B1
  unfold tupV kT firstP
  obtain ⟨z3, hz3⟩ : ∃ z, z = w2.heap.size := ⟨_, rfl⟩
  obtain ⟨w3, hw3⟩ : ∃ x, x = w2.alloc (.cells #[.int .i64 0, .int .i64 0, .int .i64 0, .int .i64 1, .bool false, .slice A1 0 c1, .int .i64 3, .int .i64 2] 26) := ⟨_, rfl⟩
  have bb : Below w2.heap.size w2 w3 := by rw [hw3]; exact below_al (below_d0 _) _
  have bt : BoxU w3 z3 kT (.slice A1 0 c1) := by rw [hw3, hz3]; exact BoxU.new w2 kT _
  replace own1 := keepF own1 bb
  have B3 := B2.trans (bb.mono B2.size)
  clear bb B2
  have HE3 := Lib.hid (⟨hw3, hz3⟩ : _ ∧ _)
  clear hw3 hz3
  go_upto_region 2 with fail
  rw [← HE3.out.1, ← HE3.out.2]
  clear HE3
  have hbtl := bt.lt
  have HO1 := Lib.hid (⟨bt, own1⟩ : _ ∧ _)
  refine wp_region_held_drew (S := (fun X => BoxU X z3 kT (.slice A1 0 c1))) (by kernel_rfl) bt (fun hHeld => ?_)
  refine take_at (i := 0) (d := 25) (oi := ?o1) (v := ?v1) ?hi1 ?hd1 (by kernel_rfl) (by kernel_rfl) (by kernel_rfl) ?hw1 ?hy1 ?hq1 (by assumption) ?r1
  case hi1 => (simp only [List.getElem?_toArray, List.getElem?_cons_zero]; rfl)
  case hd1 => rfl
  case hw1 => rfl
  case hy1 => ((intro w hSw; (try dsimp only at hSw); obtain ⟨s0, s1, s2, s3, s4, s5, s6, s7⟩ := BoxU.cells hSw; go_simp) <;> (with_reducible rfl))
  case hq1 => exact fun _ _ _ h => h
  simp only [List.set_cons_succ, List.set_cons_zero]
  refine name_lst12 (l' := #[true, false, false, false, false, false, false, false, false, false]) (by kernel_rfl) ?_
  refine join7 (d1 := 26) (d2 := 27) (d3 := 28) (d4 := 3) (d5 := 24) (d6 := 29) (d7 := 30) (L := [1, 2, 3, 4, 5, 6, 7]) (fuel' := 2) (fun v1 v2 v3 v4 v5 v6 v7 W' => Join12 w3 (fun sl => .agg #[.int .i64 0, .int .i64 0, .int .i64 0, .int .i64 1, .bool false, sl, .int .i64 3, .int .i64 2]) kU.lg 3 0 v3 v4 v5 v6 v7 W') ?rest ?first
  case first =>
    intro H
    have kbn : Below w3.heap.size w3 w3.drew := (Below.refl _ _).drew
    replace bt : BoxU w3.drew z3 kT (.slice A1 0 c1) := bt
    replace own1 := keepF own1 kbn
    refine wpAnyH_ready (rs := [1, 7]) (by kernel_rfl) (by simp) ?_
    refine two_ready ?_ ?_
    · obtain ⟨g1, hg1⟩ : ∃ z, z = w3.drew.heap.size := ⟨_, rfl⟩
      obtain ⟨x1, hWn⟩ : ∃ x, x = w3.drew.alloc (.cells #[.int .i64 5, .int .i64 6, .int .i64 7] 3) := ⟨_, rfl⟩
      have hb : Below w3.drew.heap.size w3.drew x1 := by rw [hWn]; exact below_al (below_d0 _) _
      have hrn : Rd x1 x1.heap.size .i64 (some ⟨g1, 0, none⟩) 3 [5, 6, 7] := by rw [hWn]; exact rd_made w3.drew .i64 3 [5, 6, 7] hg1
      have kbn := below_on kbn hb
      replace bt := bt.below hb
      replace own1 := keepF own1 hb
      refine br_val (i := 1) (d := 26) (oi := ?o2) (v := .slice (some ⟨g1, 0, none⟩) 3 3) (w' := x1) ?hi2 ?hd2 ?hw2 ?he2 bt ?hc2
      case hi2 => (simp only [List.getElem?_toArray, List.getElem?_cons_succ, List.getElem?_cons_zero]; rfl)
      case hd2 => rfl
      case hw2 => rfl
      case he2 => (rw [hWn, hg1]; go_simp <;> with_reducible rfl)
      intro hHeld
      simp only [List.set_cons_succ, List.set_cons_zero]
      clear hWn hg1 hb
      have hr := hrn
      clear hrn
      refine wpAnyH_ready (rs := [2, 7]) (by kernel_rfl) (by simp) ?_
      refine two_ready ?_ ?_
      · refine br_call (i := 2) (d := 27) (oi := ?o3) (f := ?f3) (args := ?a3) ?hi3 ?hd3 ?hw3 ?he3 ?hc3
        case hi3 => (simp only [List.getElem?_toArray, List.getElem?_cons_succ, List.getElem?_cons_zero]; rfl)
        case hd3 => rfl
        case hw3 => rfl
        case he3 => (go_simp; constructor <;> with_reducible rfl)
        refine Calls.mono (some_any 2 (some ⟨g1, 0, none⟩) 3 3 [5, 6, 7] x1 hr (by omega)) ?_
        rintro e x2 ⟨⟨A2, c2, rfl, hc2, own2⟩, hb⟩
        replace own2 := lowF own2 (kbn).size
        have kbn := below_on kbn hb
        replace bt := bt.below hb
        replace own1 := keepF own1 hb
        refine ⟨_, rfl, bt, fun hHeld => ?_⟩
        simp only [List.set_cons_succ, List.set_cons_zero]
        clear hb
        refine wpAnyH_ready (rs := [3, 7]) (by kernel_rfl) (by simp) ?_
        refine two_ready ?_ ?_
        · refine br_call (i := 3) (d := 28) (oi := ?o4) (f := ?f4) (args := ?a4) ?hi4 ?hd4 ?hw4 ?he4 ?hc4
          case hi4 => (simp only [List.getElem?_toArray, List.getElem?_cons_succ, List.getElem?_cons_zero]; rfl)
          case hd4 => rfl
          case hw4 => rfl
          case he4 => (go_simp; constructor <;> with_reducible rfl)
          refine Calls.mono (show Calls Try.prog 10 #[.agg #[.int .i64 0, .int .i64 0, .int .i64 0, .int .i64 1, .bool false, .slice A1 0 c1, .int .i64 3, .int .i64 2], .slice A2 3 c2] x2 (OutF (AppendIs kT (dataL 2 [5, 6, 7])) x2.heap.size x2) from D.append kT A1 0 c1 A2 3 c2 (dataL 2 [5, 6, 7]) x2 (OwnF.es own1) (by omega) (by omega) (mid_of (by decide)) (OwnF.es own2) (by omega) hc2) ?_
          intro e x3 hh
          obtain ⟨A3, c3, rfl, hc3, own3, hb⟩ := OutF.is (x := 0) (n := 3) hh (fun h => ToldIs.same h k2) (by rfl)
          replace own3 := lowF own3 (kbn).size
          have kbn := below_on kbn hb
          replace bt := bt.below hb
          replace own1 := keepF own1 hb
          refine ⟨_, rfl, bt, fun hHeld => ?_⟩
          simp only [List.set_cons_succ, List.set_cons_zero]
          clear hb
          refine take_at (i := 4) (d := 24) (oi := ?o5) (v := ?v5) ?hi5 ?hd5 (by kernel_rfl) (by kernel_rfl) (by kernel_rfl) ?hw5 ?hy5 ?hq5 (by assumption) ?r5
          case hi5 => (simp only [List.getElem?_toArray, List.getElem?_cons_succ, List.getElem?_cons_zero]; rfl)
          case hd5 => rfl
          case hw5 => rfl
          case hy5 => ((intro w hSw; (try dsimp only at hSw); obtain ⟨s0, s1, s2, s3, s4, s5, s6, s7⟩ := BoxU.cells hSw; go_simp) <;> (with_reducible rfl))
          case hq5 => exact fun _ _ _ h => h
          simp only [List.set_cons_succ, List.set_cons_zero]
          refine take_at (i := 5) (d := 29) (oi := ?o6) (v := ?v6) ?hi6 ?hd6 (by kernel_rfl) (by kernel_rfl) (by kernel_rfl) ?hw6 ?hy6 ?hq6 (by assumption) ?r6
          case hi6 => (simp only [List.getElem?_toArray, List.getElem?_cons_succ, List.getElem?_cons_zero]; rfl)
          case hd6 => rfl
          case hw6 => rfl
          case hy6 => ((intro w hSw; (try dsimp only at hSw); obtain ⟨s0, s1, s2, s3, s4, s5, s6, s7⟩ := BoxU.cells hSw; go_simp) <;> (with_reducible rfl))
          case hq6 => exact fun _ _ _ h => h
          simp only [List.set_cons_succ, List.set_cons_zero]
          refine take_at (i := 6) (d := 30) (oi := ?o7) (v := ?v7) ?hi7 ?hd7 (by kernel_rfl) (by kernel_rfl) (by kernel_rfl) ?hw7 ?hy7 ?hq7 (by assumption) ?r7
          case hi7 => (simp only [List.getElem?_toArray, List.getElem?_cons_succ, List.getElem?_cons_zero]; rfl)
          case hd7 => rfl
          case hw7 => rfl
          case hy7 => ((intro w hSw; (try dsimp only at hSw); obtain ⟨s0, s1, s2, s3, s4, s5, s6, s7⟩ := BoxU.cells hSw; go_simp) <;> (with_reducible rfl))
          case hq7 => exact fun _ _ _ h => h
          simp only [List.set_cons_succ, List.set_cons_zero]
          refine wpAnyH_ready (rs := [7]) (by kernel_rfl) (by simp) ?_
          obtain ⟨g7, hg7⟩ : ∃ z, z = x3.heap.size := ⟨_, rfl⟩
          obtain ⟨x4, hWn⟩ : ∃ x, x = x3.alloc (.cells #[.int .i64 0, .int .i64 0, .int .i64 0, .int .i64 0, .bool false, .slice none 0 0, .int .i64 0, .int .i64 0] 26) := ⟨_, rfl⟩
          have hb : Below x3.heap.size x3 x4 := by rw [hWn]; exact below_al (below_d0 _) _
          have bzn : BoxU x4 g7 noneT (.slice none 0 0) := by rw [hWn, hg7]; exact BoxU.new x3 noneT _
          have lz : w3.heap.size ≤ g7 := by rw [hg7]; exact (kbn).size
          have kbn := below_on kbn hb
          replace bt := bt.below hb
          replace own1 := keepF own1 hb
          replace own3 := keepF own3 hb
          refine br_val (i := 7) (d := 3) (oi := ?o8) (v := .pointer (some ⟨g7, 0, none⟩)) (w' := x4) ?hi8 ?hd8 ?hw8 ?he8 bt ?hc8
          case hi8 => (simp only [List.getElem?_toArray, List.getElem?_cons_succ, List.getElem?_cons_zero]; rfl)
          case hd8 => rfl
          case hw8 => rfl
          case he8 => (rw [hWn, hg7]; go_simp <;> with_reducible rfl)
          intro hHeld
          simp only [List.set_cons_succ, List.set_cons_zero]
          clear hWn hg7 hb
          have bz := bzn
          clear bzn
          have HH := H (.slice (some ⟨g1, 0, none⟩) 3 3) (.slice A2 3 c2) _ _ _ _ _ _ ⟨⟨_, _, _, rfl, rfl, rfl, rfl, rfl, hc3, own3, bz, lz, kbn⟩⟩ hHeld
          simp only [List.set_cons_succ, List.set_cons_zero] at HH
          exact name_lst12 (l' := [1, 2, 3, 4, 5, 6, 7].foldl (fun l i => l.setIfInBounds i true) #[true, false, false, false, false, false, false, false, false, false]) (by kernel_rfl) HH
        obtain ⟨g7, hg7⟩ : ∃ z, z = x2.heap.size := ⟨_, rfl⟩
        obtain ⟨x5, hWn⟩ : ∃ x, x = x2.alloc (.cells #[.int .i64 0, .int .i64 0, .int .i64 0, .int .i64 0, .bool false, .slice none 0 0, .int .i64 0, .int .i64 0] 26) := ⟨_, rfl⟩
        have hb : Below x2.heap.size x2 x5 := by rw [hWn]; exact below_al (below_d0 _) _
        have bzn : BoxU x5 g7 noneT (.slice none 0 0) := by rw [hWn, hg7]; exact BoxU.new x2 noneT _
        have lz : w3.heap.size ≤ g7 := by rw [hg7]; exact (kbn).size
        have kbn := below_on kbn hb
        replace bt := bt.below hb
        replace own1 := keepF own1 hb
        replace own2 := keepF own2 hb
        refine br_val (i := 7) (d := 3) (oi := ?o9) (v := .pointer (some ⟨g7, 0, none⟩)) (w' := x5) ?hi9 ?hd9 ?hw9 ?he9 bt ?hc9
        case hi9 => (simp only [List.getElem?_toArray, List.getElem?_cons_succ, List.getElem?_cons_zero]; rfl)
        case hd9 => rfl
        case hw9 => rfl
        case he9 => (rw [hWn, hg7]; go_simp <;> with_reducible rfl)
        intro hHeld
        simp only [List.set_cons_succ, List.set_cons_zero]
        clear hWn hg7 hb
        have bz := bzn
        clear bzn
        refine wpAnyH_ready (rs := [3]) (by kernel_rfl) (by simp) ?_
        refine br_call (i := 3) (d := 28) (oi := ?o10) (f := ?f10) (args := ?a10) ?hi10 ?hd10 ?hw10 ?he10 ?hc10
        case hi10 => (simp only [List.getElem?_toArray, List.getElem?_cons_succ, List.getElem?_cons_zero]; rfl)
        case hd10 => rfl
        case hw10 => rfl
        case he10 => (go_simp; constructor <;> with_reducible rfl)
        refine Calls.mono (show Calls Try.prog 10 #[.agg #[.int .i64 0, .int .i64 0, .int .i64 0, .int .i64 1, .bool false, .slice A1 0 c1, .int .i64 3, .int .i64 2], .slice A2 3 c2] x5 (OutF (AppendIs kT (dataL 2 [5, 6, 7])) x5.heap.size x5) from D.append kT A1 0 c1 A2 3 c2 (dataL 2 [5, 6, 7]) x5 (OwnF.es own1) (by omega) (by omega) (mid_of (by decide)) (OwnF.es own2) (by omega) hc2) ?_
        intro e x6 hh
        obtain ⟨A3, c3, rfl, hc3, own3, hb⟩ := OutF.is (x := 0) (n := 3) hh (fun h => ToldIs.same h k2) (by rfl)
        replace own3 := lowF own3 (kbn).size
        have kbn := below_on kbn hb
        replace bt := bt.below hb
        replace own1 := keepF own1 hb
        replace bz := bz.below hb
        refine ⟨_, rfl, bt, fun hHeld => ?_⟩
        simp only [List.set_cons_succ, List.set_cons_zero]
        clear hb
        refine take_at (i := 4) (d := 24) (oi := ?o11) (v := ?v11) ?hi11 ?hd11 (by kernel_rfl) (by kernel_rfl) (by kernel_rfl) ?hw11 ?hy11 ?hq11 (by assumption) ?r11
        case hi11 => (simp only [List.getElem?_toArray, List.getElem?_cons_succ, List.getElem?_cons_zero]; rfl)
        case hd11 => rfl
        case hw11 => rfl
        case hy11 => ((intro w hSw; (try dsimp only at hSw); obtain ⟨s0, s1, s2, s3, s4, s5, s6, s7⟩ := BoxU.cells hSw; go_simp) <;> (with_reducible rfl))
        case hq11 => exact fun _ _ _ h => h
        simp only [List.set_cons_succ, List.set_cons_zero]
        refine take_at (i := 5) (d := 29) (oi := ?o12) (v := ?v12) ?hi12 ?hd12 (by kernel_rfl) (by kernel_rfl) (by kernel_rfl) ?hw12 ?hy12 ?hq12 (by assumption) ?r12
        case hi12 => (simp only [List.getElem?_toArray, List.getElem?_cons_succ, List.getElem?_cons_zero]; rfl)
        case hd12 => rfl
        case hw12 => rfl
        case hy12 => ((intro w hSw; (try dsimp only at hSw); obtain ⟨s0, s1, s2, s3, s4, s5, s6, s7⟩ := BoxU.cells hSw; go_simp) <;> (with_reducible rfl))
        case hq12 => exact fun _ _ _ h => h
        simp only [List.set_cons_succ, List.set_cons_zero]
        refine take_at (i := 6) (d := 30) (oi := ?o13) (v := ?v13) ?hi13 ?hd13 (by kernel_rfl) (by kernel_rfl) (by kernel_rfl) ?hw13 ?hy13 ?hq13 (by assumption) ?r13
        case hi13 => (simp only [List.getElem?_toArray, List.getElem?_cons_succ, List.getElem?_cons_zero]; rfl)
        case hd13 => rfl
        case hw13 => rfl
        case hy13 => ((intro w hSw; (try dsimp only at hSw); obtain ⟨s0, s1, s2, s3, s4, s5, s6, s7⟩ := BoxU.cells hSw; go_simp) <;> (with_reducible rfl))
        case hq13 => exact fun _ _ _ h => h
        simp only [List.set_cons_succ, List.set_cons_zero]
        have HH := H (.slice (some ⟨g1, 0, none⟩) 3 3) (.slice A2 3 c2) _ _ _ _ _ _ ⟨⟨_, _, _, rfl, rfl, rfl, rfl, rfl, hc3, own3, bz, lz, kbn⟩⟩ hHeld
        simp only [List.set_cons_succ, List.set_cons_zero] at HH
        exact name_lst12 (l' := [1, 2, 3, 4, 5, 6, 7].foldl (fun l i => l.setIfInBounds i true) #[true, false, false, false, false, false, false, false, false, false]) (by kernel_rfl) HH
      obtain ⟨g7, hg7⟩ : ∃ z, z = x1.heap.size := ⟨_, rfl⟩
      obtain ⟨x7, hWn⟩ : ∃ x, x = x1.alloc (.cells #[.int .i64 0, .int .i64 0, .int .i64 0, .int .i64 0, .bool false, .slice none 0 0, .int .i64 0, .int .i64 0] 26) := ⟨_, rfl⟩
      have hb : Below x1.heap.size x1 x7 := by rw [hWn]; exact below_al (below_d0 _) _
      have bzn : BoxU x7 g7 noneT (.slice none 0 0) := by rw [hWn, hg7]; exact BoxU.new x1 noneT _
      have lz : w3.heap.size ≤ g7 := by rw [hg7]; exact (kbn).size
      have kbn := below_on kbn hb
      replace bt := bt.below hb
      replace own1 := keepF own1 hb
      replace hr := hr.on hb hb.size
      refine br_val (i := 7) (d := 3) (oi := ?o14) (v := .pointer (some ⟨g7, 0, none⟩)) (w' := x7) ?hi14 ?hd14 ?hw14 ?he14 bt ?hc14
      case hi14 => (simp only [List.getElem?_toArray, List.getElem?_cons_succ, List.getElem?_cons_zero]; rfl)
      case hd14 => rfl
      case hw14 => rfl
      case he14 => (rw [hWn, hg7]; go_simp <;> with_reducible rfl)
      intro hHeld
      simp only [List.set_cons_succ, List.set_cons_zero]
      clear hWn hg7 hb
      have bz := bzn
      clear bzn
      refine wpAnyH_ready (rs := [2]) (by kernel_rfl) (by simp) ?_
      refine br_call (i := 2) (d := 27) (oi := ?o15) (f := ?f15) (args := ?a15) ?hi15 ?hd15 ?hw15 ?he15 ?hc15
      case hi15 => (simp only [List.getElem?_toArray, List.getElem?_cons_succ, List.getElem?_cons_zero]; rfl)
      case hd15 => rfl
      case hw15 => rfl
      case he15 => (go_simp; constructor <;> with_reducible rfl)
      refine Calls.mono (some_any 2 (some ⟨g1, 0, none⟩) 3 3 [5, 6, 7] x7 hr (by omega)) ?_
      rintro e x8 ⟨⟨A2, c2, rfl, hc2, own2⟩, hb⟩
      replace own2 := lowF own2 (kbn).size
      have kbn := below_on kbn hb
      replace bt := bt.below hb
      replace own1 := keepF own1 hb
      replace bz := bz.below hb
      refine ⟨_, rfl, bt, fun hHeld => ?_⟩
      simp only [List.set_cons_succ, List.set_cons_zero]
      clear hb
      refine wpAnyH_ready (rs := [3]) (by kernel_rfl) (by simp) ?_
      refine br_call (i := 3) (d := 28) (oi := ?o16) (f := ?f16) (args := ?a16) ?hi16 ?hd16 ?hw16 ?he16 ?hc16
      case hi16 => (simp only [List.getElem?_toArray, List.getElem?_cons_succ, List.getElem?_cons_zero]; rfl)
      case hd16 => rfl
      case hw16 => rfl
      case he16 => (go_simp; constructor <;> with_reducible rfl)
      refine Calls.mono (show Calls Try.prog 10 #[.agg #[.int .i64 0, .int .i64 0, .int .i64 0, .int .i64 1, .bool false, .slice A1 0 c1, .int .i64 3, .int .i64 2], .slice A2 3 c2] x8 (OutF (AppendIs kT (dataL 2 [5, 6, 7])) x8.heap.size x8) from D.append kT A1 0 c1 A2 3 c2 (dataL 2 [5, 6, 7]) x8 (OwnF.es own1) (by omega) (by omega) (mid_of (by decide)) (OwnF.es own2) (by omega) hc2) ?_
      intro e x9 hh
      obtain ⟨A3, c3, rfl, hc3, own3, hb⟩ := OutF.is (x := 0) (n := 3) hh (fun h => ToldIs.same h k2) (by rfl)
      replace own3 := lowF own3 (kbn).size
      have kbn := below_on kbn hb
      replace bt := bt.below hb
      replace own1 := keepF own1 hb
      replace bz := bz.below hb
      refine ⟨_, rfl, bt, fun hHeld => ?_⟩
      simp only [List.set_cons_succ, List.set_cons_zero]
      clear hb
      refine take_at (i := 4) (d := 24) (oi := ?o17) (v := ?v17) ?hi17 ?hd17 (by kernel_rfl) (by kernel_rfl) (by kernel_rfl) ?hw17 ?hy17 ?hq17 (by assumption) ?r17
      case hi17 => (simp only [List.getElem?_toArray, List.getElem?_cons_succ, List.getElem?_cons_zero]; rfl)
      case hd17 => rfl
      case hw17 => rfl
      case hy17 => ((intro w hSw; (try dsimp only at hSw); obtain ⟨s0, s1, s2, s3, s4, s5, s6, s7⟩ := BoxU.cells hSw; go_simp) <;> (with_reducible rfl))
      case hq17 => exact fun _ _ _ h => h
      simp only [List.set_cons_succ, List.set_cons_zero]
      refine take_at (i := 5) (d := 29) (oi := ?o18) (v := ?v18) ?hi18 ?hd18 (by kernel_rfl) (by kernel_rfl) (by kernel_rfl) ?hw18 ?hy18 ?hq18 (by assumption) ?r18
      case hi18 => (simp only [List.getElem?_toArray, List.getElem?_cons_succ, List.getElem?_cons_zero]; rfl)
      case hd18 => rfl
      case hw18 => rfl
      case hy18 => ((intro w hSw; (try dsimp only at hSw); obtain ⟨s0, s1, s2, s3, s4, s5, s6, s7⟩ := BoxU.cells hSw; go_simp) <;> (with_reducible rfl))
      case hq18 => exact fun _ _ _ h => h
      simp only [List.set_cons_succ, List.set_cons_zero]
      refine take_at (i := 6) (d := 30) (oi := ?o19) (v := ?v19) ?hi19 ?hd19 (by kernel_rfl) (by kernel_rfl) (by kernel_rfl) ?hw19 ?hy19 ?hq19 (by assumption) ?r19
      case hi19 => (simp only [List.getElem?_toArray, List.getElem?_cons_succ, List.getElem?_cons_zero]; rfl)
      case hd19 => rfl
      case hw19 => rfl
      case hy19 => ((intro w hSw; (try dsimp only at hSw); obtain ⟨s0, s1, s2, s3, s4, s5, s6, s7⟩ := BoxU.cells hSw; go_simp) <;> (with_reducible rfl))
      case hq19 => exact fun _ _ _ h => h
      simp only [List.set_cons_succ, List.set_cons_zero]
      have HH := H (.slice (some ⟨g1, 0, none⟩) 3 3) (.slice A2 3 c2) _ _ _ _ _ _ ⟨⟨_, _, _, rfl, rfl, rfl, rfl, rfl, hc3, own3, bz, lz, kbn⟩⟩ hHeld
      simp only [List.set_cons_succ, List.set_cons_zero] at HH
      exact name_lst12 (l' := [1, 2, 3, 4, 5, 6, 7].foldl (fun l i => l.setIfInBounds i true) #[true, false, false, false, false, false, false, false, false, false]) (by kernel_rfl) HH
    obtain ⟨g7, hg7⟩ : ∃ z, z = w3.drew.heap.size := ⟨_, rfl⟩
    obtain ⟨x10, hWn⟩ : ∃ x, x = w3.drew.alloc (.cells #[.int .i64 0, .int .i64 0, .int .i64 0, .int .i64 0, .bool false, .slice none 0 0, .int .i64 0, .int .i64 0] 26) := ⟨_, rfl⟩
    have hb : Below w3.drew.heap.size w3.drew x10 := by rw [hWn]; exact below_al (below_d0 _) _
    have bzn : BoxU x10 g7 noneT (.slice none 0 0) := by rw [hWn, hg7]; exact BoxU.new w3.drew noneT _
    have lz : w3.heap.size ≤ g7 := by rw [hg7]; exact (kbn).size
    have kbn := below_on kbn hb
    replace bt := bt.below hb
    replace own1 := keepF own1 hb
    refine br_val (i := 7) (d := 3) (oi := ?o20) (v := .pointer (some ⟨g7, 0, none⟩)) (w' := x10) ?hi20 ?hd20 ?hw20 ?he20 bt ?hc20
    case hi20 => (simp only [List.getElem?_toArray, List.getElem?_cons_succ, List.getElem?_cons_zero]; rfl)
    case hd20 => rfl
    case hw20 => rfl
    case he20 => (rw [hWn, hg7]; go_simp <;> with_reducible rfl)
    intro hHeld
    simp only [List.set_cons_succ, List.set_cons_zero]
    clear hWn hg7 hb
    have bz := bzn
    clear bzn
    refine wpAnyH_ready (rs := [1]) (by kernel_rfl) (by simp) ?_
    obtain ⟨g1, hg1⟩ : ∃ z, z = x10.heap.size := ⟨_, rfl⟩
    obtain ⟨x11, hWn⟩ : ∃ x, x = x10.alloc (.cells #[.int .i64 5, .int .i64 6, .int .i64 7] 3) := ⟨_, rfl⟩
    have hb : Below x10.heap.size x10 x11 := by rw [hWn]; exact below_al (below_d0 _) _
    have hrn : Rd x11 x11.heap.size .i64 (some ⟨g1, 0, none⟩) 3 [5, 6, 7] := by rw [hWn]; exact rd_made x10 .i64 3 [5, 6, 7] hg1
    have kbn := below_on kbn hb
    replace bt := bt.below hb
    replace own1 := keepF own1 hb
    replace bz := bz.below hb
    refine br_val (i := 1) (d := 26) (oi := ?o21) (v := .slice (some ⟨g1, 0, none⟩) 3 3) (w' := x11) ?hi21 ?hd21 ?hw21 ?he21 bt ?hc21
    case hi21 => (simp only [List.getElem?_toArray, List.getElem?_cons_succ, List.getElem?_cons_zero]; rfl)
    case hd21 => rfl
    case hw21 => rfl
    case he21 => (rw [hWn, hg1]; go_simp <;> with_reducible rfl)
    intro hHeld
    simp only [List.set_cons_succ, List.set_cons_zero]
    clear hWn hg1 hb
    have hr := hrn
    clear hrn
    refine wpAnyH_ready (rs := [2]) (by kernel_rfl) (by simp) ?_
    refine br_call (i := 2) (d := 27) (oi := ?o22) (f := ?f22) (args := ?a22) ?hi22 ?hd22 ?hw22 ?he22 ?hc22
    case hi22 => (simp only [List.getElem?_toArray, List.getElem?_cons_succ, List.getElem?_cons_zero]; rfl)
    case hd22 => rfl
    case hw22 => rfl
    case he22 => (go_simp; constructor <;> with_reducible rfl)
    refine Calls.mono (some_any 2 (some ⟨g1, 0, none⟩) 3 3 [5, 6, 7] x11 hr (by omega)) ?_
    rintro e x12 ⟨⟨A2, c2, rfl, hc2, own2⟩, hb⟩
    replace own2 := lowF own2 (kbn).size
    have kbn := below_on kbn hb
    replace bt := bt.below hb
    replace own1 := keepF own1 hb
    replace bz := bz.below hb
    refine ⟨_, rfl, bt, fun hHeld => ?_⟩
    simp only [List.set_cons_succ, List.set_cons_zero]
    clear hb
    refine wpAnyH_ready (rs := [3]) (by kernel_rfl) (by simp) ?_
    refine br_call (i := 3) (d := 28) (oi := ?o23) (f := ?f23) (args := ?a23) ?hi23 ?hd23 ?hw23 ?he23 ?hc23
    case hi23 => (simp only [List.getElem?_toArray, List.getElem?_cons_succ, List.getElem?_cons_zero]; rfl)
    case hd23 => rfl
    case hw23 => rfl
    case he23 => (go_simp; constructor <;> with_reducible rfl)
    refine Calls.mono (show Calls Try.prog 10 #[.agg #[.int .i64 0, .int .i64 0, .int .i64 0, .int .i64 1, .bool false, .slice A1 0 c1, .int .i64 3, .int .i64 2], .slice A2 3 c2] x12 (OutF (AppendIs kT (dataL 2 [5, 6, 7])) x12.heap.size x12) from D.append kT A1 0 c1 A2 3 c2 (dataL 2 [5, 6, 7]) x12 (OwnF.es own1) (by omega) (by omega) (mid_of (by decide)) (OwnF.es own2) (by omega) hc2) ?_
    intro e x13 hh
    obtain ⟨A3, c3, rfl, hc3, own3, hb⟩ := OutF.is (x := 0) (n := 3) hh (fun h => ToldIs.same h k2) (by rfl)
    replace own3 := lowF own3 (kbn).size
    have kbn := below_on kbn hb
    replace bt := bt.below hb
    replace own1 := keepF own1 hb
    replace bz := bz.below hb
    refine ⟨_, rfl, bt, fun hHeld => ?_⟩
    simp only [List.set_cons_succ, List.set_cons_zero]
    clear hb
    refine take_at (i := 4) (d := 24) (oi := ?o24) (v := ?v24) ?hi24 ?hd24 (by kernel_rfl) (by kernel_rfl) (by kernel_rfl) ?hw24 ?hy24 ?hq24 (by assumption) ?r24
    case hi24 => (simp only [List.getElem?_toArray, List.getElem?_cons_succ, List.getElem?_cons_zero]; rfl)
    case hd24 => rfl
    case hw24 => rfl
    case hy24 => ((intro w hSw; (try dsimp only at hSw); obtain ⟨s0, s1, s2, s3, s4, s5, s6, s7⟩ := BoxU.cells hSw; go_simp) <;> (with_reducible rfl))
    case hq24 => exact fun _ _ _ h => h
    simp only [List.set_cons_succ, List.set_cons_zero]
    refine take_at (i := 5) (d := 29) (oi := ?o25) (v := ?v25) ?hi25 ?hd25 (by kernel_rfl) (by kernel_rfl) (by kernel_rfl) ?hw25 ?hy25 ?hq25 (by assumption) ?r25
    case hi25 => (simp only [List.getElem?_toArray, List.getElem?_cons_succ, List.getElem?_cons_zero]; rfl)
    case hd25 => rfl
    case hw25 => rfl
    case hy25 => ((intro w hSw; (try dsimp only at hSw); obtain ⟨s0, s1, s2, s3, s4, s5, s6, s7⟩ := BoxU.cells hSw; go_simp) <;> (with_reducible rfl))
    case hq25 => exact fun _ _ _ h => h
    simp only [List.set_cons_succ, List.set_cons_zero]
    refine take_at (i := 6) (d := 30) (oi := ?o26) (v := ?v26) ?hi26 ?hd26 (by kernel_rfl) (by kernel_rfl) (by kernel_rfl) ?hw26 ?hy26 ?hq26 (by assumption) ?r26
    case hi26 => (simp only [List.getElem?_toArray, List.getElem?_cons_succ, List.getElem?_cons_zero]; rfl)
    case hd26 => rfl
    case hw26 => rfl
    case hy26 => ((intro w hSw; (try dsimp only at hSw); obtain ⟨s0, s1, s2, s3, s4, s5, s6, s7⟩ := BoxU.cells hSw; go_simp) <;> (with_reducible rfl))
    case hq26 => exact fun _ _ _ h => h
    simp only [List.set_cons_succ, List.set_cons_zero]
    have HH := H (.slice (some ⟨g1, 0, none⟩) 3 3) (.slice A2 3 c2) _ _ _ _ _ _ ⟨⟨_, _, _, rfl, rfl, rfl, rfl, rfl, hc3, own3, bz, lz, kbn⟩⟩ hHeld
    simp only [List.set_cons_succ, List.set_cons_zero] at HH
    exact name_lst12 (l' := [1, 2, 3, 4, 5, 6, 7].foldl (fun l i => l.setIfInBounds i true) #[true, false, false, false, false, false, false, false, false, false]) (by kernel_rfl) HH
  case rest =>
    rintro v1 v2 v3 v4 v5 v6 v7 W' ⟨⟨A3, c3, z4, rfl, rfl, rfl, rfl, rfl, hc3, own3, bz, lz, kb⟩⟩ hHeld
    simp only [List.set_cons_succ, List.set_cons_zero]
    clear bt own1
    obtain ⟨bt, own1⟩ := HO1.out
    have hne : z3 ≠ z4 := by omega
    have lbt := bt.lt
    replace bt := bt.below kb
    replace own1 := keepF own1 kb
    obtain ⟨w4, hw4⟩ : ∃ x, x = putU W' z4 kU (.slice A3 3 c3) := ⟨_, rfl⟩
    have bt9 : BoxU w4 z3 kT (.slice A1 0 c1) := by rw [hw4]; exact putU_boxes bt (by omega)
    have own19 := putU_ownF (m := kU) (x := .slice A3 3 c3) bz own1
    rw [← hw4] at own19
    have own39 := putU_ownF (m := kU) (x := .slice A3 3 c3) bz own3
    rw [← hw4] at own39
    have bu : BoxU w4 z4 kU (.slice A3 3 c3) := by rw [hw4]; exact putU_box bz kU _
    have kb9 : Below w3.heap.size w3 w4 := by rw [hw4]; exact putU_below lz kU _ kb
    have e9 : w4 = ((((((((W'.setCell ⟨z4, 0, none⟩ (.int .i64 0)).setCell ⟨z4, 1, none⟩ (.int .i64 0)).setCell ⟨z4, 2, none⟩ (.int .i64 0)).setCell ⟨z4, 3, none⟩ (.int .i64 1)).setCell ⟨z4, 4, none⟩ (.bool false)).setCell ⟨z4, 5, none⟩ (.slice A3 3 c3)).setCell ⟨z4, 6, none⟩ (.int .i64 3)).setCell ⟨z4, 7, none⟩ (.int .i64 2)) := hw4
    obtain ⟨g0, g1, g2, g3, g4, g5, g6, g7⟩ := bz.cells
    have f0 := bz.frozen 0
    have f1 := bz.frozen 1
    have f2 := bz.frozen 2
    have f3 := bz.frozen 3
    have f4 := bz.frozen 4
    have f5 := bz.frozen 5
    have f6 := bz.frozen 6
    have f7 := bz.frozen 7
    refine wpAnyH_ready (rs := [8]) (by kernel_rfl) (by simp) ?_
    refine br_store (i := 8) (oi := ?o27) (w' := w4) ?hi27 ?hd27 ?hw27 ?he27 bt9 ?hc27
    case hi27 => (simp only [List.getElem?_toArray, List.getElem?_cons_succ, List.getElem?_cons_zero]; rfl)
    case hd27 => rfl
    case hw27 => rfl
    case he27 => (rw [e9]; go_simp <;> with_reducible rfl)
    intro hHeld
    clear e9 g0 g1 g2 g3 g4 g5 g6 g7 f0 f1 f2 f3 f4 f5 f6 f7
    refine take_at (i := 9) (d := 4) (oi := ?o28) (v := ?v28) ?hi28 ?hd28 (by kernel_rfl) (by kernel_rfl) (by kernel_rfl) ?hw28 ?hy28 ?hq28 (by assumption) ?r28
    case hi28 => (simp only [List.getElem?_toArray, List.getElem?_cons_succ, List.getElem?_cons_zero]; rfl)
    case hd28 => rfl
    case hw28 => rfl
    case hy28 => ((intro w hSw; (try dsimp only at hSw); obtain ⟨s0, s1, s2, s3, s4, s5, s6, s7⟩ := BoxU.cells hSw; go_simp) <;> (with_reducible rfl))
    case hq28 => exact fun _ _ _ h => h
    simp only [List.set_cons_succ, List.set_cons_zero]
    refine wpAnyH_done (by kernel_rfl) ?_ _
    have B4 := B3.trans (kb9.mono B3.size)
    clear hHeld hw4 bz kb hne lz HO1 kb9 hbtl own1 own3 bt lbt
    have own1 := own19
    clear own19
    have own3 := own39
    clear own39
    have bt := bt9
    clear bt9
    have k0 : w4.cell? ⟨z4, 0, none⟩ = some (.int .i64 0) := bu.cells.1
    have k1 : w4.cell? ⟨z4, 1, none⟩ = some (.int .i64 0) := bu.cells.2.1
    have k2 : w4.cell? ⟨z4, 2, none⟩ = some (.int .i64 0) := bu.cells.2.2.1
    have k3 : w4.cell? ⟨z4, 3, none⟩ = some (.int .i64 1) := bu.cells.2.2.2.1
    have k4 : w4.cell? ⟨z4, 4, none⟩ = some (.bool false) := bu.cells.2.2.2.2.1
    have k5 : w4.cell? ⟨z4, 5, none⟩ = some (.slice A3 3 c3) := bu.cells.2.2.2.2.2.1
    have k6 : w4.cell? ⟨z4, 6, none⟩ = some (.int .i64 3) := bu.cells.2.2.2.2.2.2.1
    have k7 : w4.cell? ⟨z4, 7, none⟩ = some (.int .i64 2) := bu.cells.2.2.2.2.2.2.2
    go_wp2_with fail
    clear k0 k1 k2 k3 k4 k5 k6 k7
    refine Calls.mono (show Calls Try.prog 12 #[.agg #[.int .i64 0, .int .i64 0, .int .i64 0, .int .i64 1, .bool false, .slice A3 3 c3, .int .i64 3, .int .i64 2], .int .i64 3] w4 (OutF (CutIs kU 3) w4.heap.size w4) from D.cut kU A3 3 c3 3 w4 (OwnF.es own3) (by omega) hc3 (mid_of (by decide)) (Mid.i64 (mid_of (by decide)))) ?_
    intro e w5 hh
    obtain ⟨A4, c4, rfl, hc4, own4, bb⟩ := OutF.is (x := 0) (n := 2) hh (fun h => ToldIs.same h k3) (by rfl)
    (try clear hh)
    replace own1 := keepF own1 bb
    replace own3 := keepF own3 bb
    replace bt := bt.below bb
    replace bu := bu.below bb
    have B5 := B4.trans (bb.mono B4.size)
    clear bb B4
    unfold tupV kV firstP
    obtain ⟨z6, hz6⟩ : ∃ z, z = w5.heap.size := ⟨_, rfl⟩
    obtain ⟨w6, hw6⟩ : ∃ x, x = w5.alloc (.cells #[.int .i64 0, .int .i64 0, .int .i64 0, .int .i64 1, .bool false, .slice A4 2 c4, .int .i64 3, .int .i64 2] 26) := ⟨_, rfl⟩
    have bb : Below w5.heap.size w5 w6 := by rw [hw6]; exact below_al (below_d0 _) _
    have bv : BoxU w6 z6 kV (.slice A4 2 c4) := by rw [hw6, hz6]; exact BoxU.new w5 kV _
    replace own1 := keepF own1 bb
    replace own3 := keepF own3 bb
    replace own4 := keepF own4 bb
    replace bt := bt.below bb
    replace bu := bu.below bb
    have B6 := B5.trans (bb.mono B5.size)
    clear bb B5
    have HE6 := Lib.hid (⟨hw6, hz6⟩ : _ ∧ _)
    clear hw6 hz6
    go_upto_region 4 with fail
    rw [← HE6.out.1, ← HE6.out.2]
    clear HE6
    have k0 : w6.cell? ⟨z6, 0, none⟩ = some (.int .i64 0) := bv.cells.1
    have k1 : w6.cell? ⟨z6, 1, none⟩ = some (.int .i64 0) := bv.cells.2.1
    have k2 : w6.cell? ⟨z6, 2, none⟩ = some (.int .i64 0) := bv.cells.2.2.1
    have k3 : w6.cell? ⟨z6, 3, none⟩ = some (.int .i64 1) := bv.cells.2.2.2.1
    have k4 : w6.cell? ⟨z6, 4, none⟩ = some (.bool false) := bv.cells.2.2.2.2.1
    have k5 : w6.cell? ⟨z6, 5, none⟩ = some (.slice A4 2 c4) := bv.cells.2.2.2.2.2.1
    have k6 : w6.cell? ⟨z6, 6, none⟩ = some (.int .i64 3) := bv.cells.2.2.2.2.2.2.1
    have k7 : w6.cell? ⟨z6, 7, none⟩ = some (.int .i64 2) := bv.cells.2.2.2.2.2.2.2
    go_wp2_with fail
    clear k0 k1 k2 k3 k4 k5 k6 k7
    refine Calls.mono (show Calls Try.prog 25 #[.agg #[.int .i64 0, .int .i64 0, .int .i64 0, .int .i64 1, .bool false, .slice A4 2 c4, .int .i64 3, .int .i64 2], .int .i64 1] w6 (fun e w' => e = .returned (.tuple #[.agg #[.int .i64 1, .int .i64 2, .int .i64 6, .int .i64 1, .bool false], .bool true]) ∧ Below w6.heap.size w6 w') from by have h := D.state kV A4 2 c4 1 w6 (OwnF.es own4) (by omega) hc4 (mid_of (by decide)) (Mid.i64 (mid_of (by decide))); rw [show StateV kV 1 = .tuple #[.agg #[.int .i64 1, .int .i64 2, .int .i64 6, .int .i64 1, .bool false], .bool true] by unfold StateV; rw [k4]; rfl] at h; exact h) ?_
    intro e w7 hh
    obtain ⟨rfl, bb⟩ := hh
    (try clear hh)
    replace own1 := keepF own1 bb
    replace own3 := keepF own3 bb
    replace own4 := keepF own4 bb
    replace bt := bt.below bb
    replace bu := bu.below bb
    replace bv := bv.below bb
    have B7 := B6.trans (bb.mono B6.size)
    clear bb B6
    obtain ⟨z8, hz8⟩ : ∃ z, z = w7.heap.size := ⟨_, rfl⟩
    obtain ⟨w8, hw8⟩ : ∃ x, x = w7.alloc (.cells #[.int .i64 1, .int .i64 2, .int .i64 6, .int .i64 1, .bool false] 23) := ⟨_, rfl⟩
    have bb : Below w7.heap.size w7 w8 := by rw [hw8]; exact below_al (below_d0 _) _
    have bs : BoxS w8 z8 kS := by rw [hw8, hz8]; exact BoxS.new w7 kS
    replace own1 := keepF own1 bb
    replace own3 := keepF own3 bb
    replace own4 := keepF own4 bb
    replace bt := bt.below bb
    replace bu := bu.below bb
    replace bv := bv.below bb
    have B8 := B7.trans (bb.mono B7.size)
    clear bb B7
    have HE8 := Lib.hid (⟨hw8, hz8⟩ : _ ∧ _)
    clear hw8 hz8
    go_upto_region 5 with fail
    rw [← HE8.out.1, ← HE8.out.2]
    clear HE8
    have k0 : w8.cell? ⟨z6, 0, none⟩ = some (.int .i64 0) := bv.cells.1
    have k1 : w8.cell? ⟨z6, 1, none⟩ = some (.int .i64 0) := bv.cells.2.1
    have k2 : w8.cell? ⟨z6, 2, none⟩ = some (.int .i64 0) := bv.cells.2.2.1
    have k3 : w8.cell? ⟨z6, 3, none⟩ = some (.int .i64 1) := bv.cells.2.2.2.1
    have k4 : w8.cell? ⟨z6, 4, none⟩ = some (.bool false) := bv.cells.2.2.2.2.1
    have k5 : w8.cell? ⟨z6, 5, none⟩ = some (.slice A4 2 c4) := bv.cells.2.2.2.2.2.1
    have k6 : w8.cell? ⟨z6, 6, none⟩ = some (.int .i64 3) := bv.cells.2.2.2.2.2.2.1
    have k7 : w8.cell? ⟨z6, 7, none⟩ = some (.int .i64 2) := bv.cells.2.2.2.2.2.2.2
    have j0 : w8.cell? ⟨z8, 0, none⟩ = some (.int .i64 1) := bs.cells.1
    have j1 : w8.cell? ⟨z8, 1, none⟩ = some (.int .i64 2) := bs.cells.2.1
    have j2 : w8.cell? ⟨z8, 2, none⟩ = some (.int .i64 6) := bs.cells.2.2.1
    have j3 : w8.cell? ⟨z8, 3, none⟩ = some (.int .i64 1) := bs.cells.2.2.2.1
    have j4 : w8.cell? ⟨z8, 4, none⟩ = some (.bool false) := bs.cells.2.2.2.2
    go_wp2_with fail
    clear k0 k1 k2 k3 k4 k5 k6 k7
    clear j0 j1 j2 j3 j4
    refine Calls.mono (show Calls Try.prog 15 #[.agg #[.int .i64 0, .int .i64 0, .int .i64 0, .int .i64 1, .bool false, .slice A4 2 c4, .int .i64 3, .int .i64 2], .agg #[.int .i64 1, .int .i64 2, .int .i64 6, .int .i64 1, .bool false]] w8 (OutF (SaveIs kV kS) w8.heap.size w8) from D.save kV A4 2 c4 kS w8 (OwnF.es own4) (by omega) hc4 (mid_of (by decide)) (Mid.i64 (mid_of (by decide)))) ?_
    intro e w9 hh
    obtain ⟨A5, c5, rfl, hc5, own5, bb⟩ := OutF.is (x := 0) (n := 1) hh (fun h => ToldIs.same h k5) (by rfl)
    (try clear hh)
    replace own1 := keepF own1 bb
    replace own3 := keepF own3 bb
    replace own4 := keepF own4 bb
    replace bt := bt.below bb
    replace bu := bu.below bb
    replace bv := bv.below bb
    replace bs := bs.below bb
    have B9 := B8.trans (bb.mono B8.size)
    clear bb B8
    unfold tupV kW kS
    obtain ⟨z10, hz10⟩ : ∃ z, z = w9.heap.size := ⟨_, rfl⟩
    obtain ⟨w10, hw10⟩ : ∃ x, x = w9.alloc (.cells #[.int .i64 1, .int .i64 2, .int .i64 6, .int .i64 1, .bool false, .slice A5 1 c5, .int .i64 3, .int .i64 2] 26) := ⟨_, rfl⟩
    have bb : Below w9.heap.size w9 w10 := by rw [hw10]; exact below_al (below_d0 _) _
    have bw : BoxU w10 z10 kW (.slice A5 1 c5) := by rw [hw10, hz10]; exact BoxU.new w9 kW _
    replace own1 := keepF own1 bb
    replace own3 := keepF own3 bb
    replace own4 := keepF own4 bb
    replace own5 := keepF own5 bb
    replace bt := bt.below bb
    replace bu := bu.below bb
    replace bv := bv.below bb
    replace bs := bs.below bb
    have B10 := B9.trans (bb.mono B9.size)
    clear bb B9
    have HE10 := Lib.hid (⟨hw10, hz10⟩ : _ ∧ _)
    clear hw10 hz10
    go_upto_region 6 with fail
    rw [← HE10.out.1, ← HE10.out.2]
    clear HE10
    have k0 : w10.cell? ⟨z10, 0, none⟩ = some (.int .i64 1) := bw.cells.1
    have k1 : w10.cell? ⟨z10, 1, none⟩ = some (.int .i64 2) := bw.cells.2.1
    have k2 : w10.cell? ⟨z10, 2, none⟩ = some (.int .i64 6) := bw.cells.2.2.1
    have k3 : w10.cell? ⟨z10, 3, none⟩ = some (.int .i64 1) := bw.cells.2.2.2.1
    have k4 : w10.cell? ⟨z10, 4, none⟩ = some (.bool false) := bw.cells.2.2.2.2.1
    have k5 : w10.cell? ⟨z10, 5, none⟩ = some (.slice A5 1 c5) := bw.cells.2.2.2.2.2.1
    have k6 : w10.cell? ⟨z10, 6, none⟩ = some (.int .i64 3) := bw.cells.2.2.2.2.2.2.1
    have k7 : w10.cell? ⟨z10, 7, none⟩ = some (.int .i64 2) := bw.cells.2.2.2.2.2.2.2
    go_wp2_with fail
    clear k0 k1 k2 k3 k4 k5 k6 k7
    refine Calls.mono (show Calls Try.prog 17 #[.agg #[.int .i64 1, .int .i64 2, .int .i64 6, .int .i64 1, .bool false, .slice A5 1 c5, .int .i64 3, .int .i64 2], .agg #[.int .i64 9, .int .i64 3, .int .i64 0, .int .i64 2, .bool false]] w10 (OutF (InstallIs kW kI) w10.heap.size w10) from D.install kW A5 1 c5 kI w10 (OwnF.es own5) (by omega) hc5 (mid_of (by decide)) (Mid.i64 (mid_of (by decide)))) ?_
    intro e w11 hh
    obtain ⟨A6, c6, rfl, hc6, own6, bb⟩ := OutF.is (x := 0) (n := 0) hh (fun h => InstallIs.same h k6) (by rfl)
    (try clear hh)
    replace own1 := keepF own1 bb
    replace own3 := keepF own3 bb
    replace own4 := keepF own4 bb
    replace own5 := keepF own5 bb
    replace bt := bt.below bb
    replace bu := bu.below bb
    replace bv := bv.below bb
    replace bs := bs.below bb
    replace bw := bw.below bb
    have B11 := B10.trans (bb.mono B10.size)
    clear bb B10
    unfold tupV kX kI
    obtain ⟨z12, hz12⟩ : ∃ z, z = w11.heap.size := ⟨_, rfl⟩
    obtain ⟨w12, hw12⟩ : ∃ x, x = w11.alloc (.cells #[.int .i64 9, .int .i64 3, .int .i64 0, .int .i64 2, .bool false, .slice A6 0 c6, .int .i64 3, .int .i64 2] 26) := ⟨_, rfl⟩
    have bb : Below w11.heap.size w11 w12 := by rw [hw12]; exact below_al (below_d0 _) _
    have bx : BoxU w12 z12 kX (.slice A6 0 c6) := by rw [hw12, hz12]; exact BoxU.new w11 kX _
    replace own1 := keepF own1 bb
    replace own3 := keepF own3 bb
    replace own4 := keepF own4 bb
    replace own5 := keepF own5 bb
    replace own6 := keepF own6 bb
    replace bt := bt.below bb
    replace bu := bu.below bb
    replace bv := bv.below bb
    replace bs := bs.below bb
    replace bw := bw.below bb
    have B12 := B11.trans (bb.mono B11.size)
    clear bb B11
    have HE12 := Lib.hid (⟨hw12, hz12⟩ : _ ∧ _)
    clear hw12 hz12
    go_upto_region 7 with fail
    rw [← HE12.out.1, ← HE12.out.2]
    clear HE12
    have k0 : w12.cell? ⟨z3, 0, none⟩ = some (.int .i64 0) := bt.cells.1
    have k1 : w12.cell? ⟨z3, 1, none⟩ = some (.int .i64 0) := bt.cells.2.1
    have k2 : w12.cell? ⟨z3, 2, none⟩ = some (.int .i64 0) := bt.cells.2.2.1
    have k3 : w12.cell? ⟨z3, 3, none⟩ = some (.int .i64 1) := bt.cells.2.2.2.1
    have k4 : w12.cell? ⟨z3, 4, none⟩ = some (.bool false) := bt.cells.2.2.2.2.1
    have k5 : w12.cell? ⟨z3, 5, none⟩ = some (.slice A1 0 c1) := bt.cells.2.2.2.2.2.1
    have k6 : w12.cell? ⟨z3, 6, none⟩ = some (.int .i64 3) := bt.cells.2.2.2.2.2.2.1
    have k7 : w12.cell? ⟨z3, 7, none⟩ = some (.int .i64 2) := bt.cells.2.2.2.2.2.2.2
    go_wp2_with fail
    clear k0 k1 k2 k3 k4 k5 k6 k7
    refine Calls.mono (show Calls Try.prog 19 #[.agg #[.int .i64 0, .int .i64 0, .int .i64 0, .int .i64 1, .bool false, .slice A1 0 c1, .int .i64 3, .int .i64 2], .int .i64 3, .int .i64 1] w12 (OutF (HardIs kT 3 1) w12.heap.size w12) from D.hard kT A1 0 c1 3 1 w12 (OwnF.es own1) (by omega) hc1 (mid_of (by decide))) ?_
    intro e w13 hh
    obtain ⟨A7, c7, rfl, hc7, own7, bb⟩ := OutF.is (x := 2) (n := 0) hh (fun h => ToldIs.same h k7) (by rfl)
    (try clear hh)
    replace own1 := keepF own1 bb
    replace own3 := keepF own3 bb
    replace own4 := keepF own4 bb
    replace own5 := keepF own5 bb
    replace own6 := keepF own6 bb
    replace bt := bt.below bb
    replace bu := bu.below bb
    replace bv := bv.below bb
    replace bs := bs.below bb
    replace bw := bw.below bb
    replace bx := bx.below bb
    have B13 := B12.trans (bb.mono B12.size)
    clear bb B12
    unfold tupV kT firstP
    clear own7
    obtain ⟨z14, hz14⟩ : ∃ z, z = w13.heap.size := ⟨_, rfl⟩
    obtain ⟨w14, hw14⟩ : ∃ x, x = w13.alloc (.cells #[.int .i64 0, .int .i64 0, .int .i64 0, .int .i64 1, .bool false, .slice A7 0 c7, .int .i64 3, .int .i64 2] 26) := ⟨_, rfl⟩
    have bb : Below w13.heap.size w13 w14 := by rw [hw14]; exact below_al (below_d0 _) _
    have by7 : BoxU w14 z14 kT (.slice A7 0 c7) := by rw [hw14, hz14]; exact BoxU.new w13 kT _
    replace own1 := keepF own1 bb
    replace own3 := keepF own3 bb
    replace own4 := keepF own4 bb
    replace own5 := keepF own5 bb
    replace own6 := keepF own6 bb
    replace bt := bt.below bb
    replace bu := bu.below bb
    replace bv := bv.below bb
    replace bs := bs.below bb
    replace bw := bw.below bb
    replace bx := bx.below bb
    have B14 := B13.trans (bb.mono B13.size)
    clear bb B13
    have HE14 := Lib.hid (⟨hw14, hz14⟩ : _ ∧ _)
    clear hw14 hz14
    go_upto_region 8 with fail
    rw [← HE14.out.1, ← HE14.out.2]
    clear HE14
    clear by7
    have hbtl := bt.lt
    have HO1 := Lib.hid (⟨bt, own1, bu, bv, bs, bw, bx, own3, own4, own5, own6⟩ : _ ∧ _ ∧ _ ∧ _ ∧ _ ∧ _ ∧ _ ∧ _ ∧ _ ∧ _ ∧ _)
    clear bu bv bs bw bx own3 own4 own5 own6
    refine wp_region_held_drew (S := (fun X => BoxU X z3 kT (.slice A1 0 c1))) (by kernel_rfl) bt (fun hHeld => ?_)
    refine take_at (i := 0) (d := 59) (oi := ?o29) (v := ?v29) ?hi29 ?hd29 (by kernel_rfl) (by kernel_rfl) (by kernel_rfl) ?hw29 ?hy29 ?hq29 (by assumption) ?r29
    case hi29 => (simp only [List.getElem?_toArray, List.getElem?_cons_zero]; rfl)
    case hd29 => rfl
    case hw29 => rfl
    case hy29 => ((intro w hSw; (try dsimp only at hSw); obtain ⟨s0, s1, s2, s3, s4, s5, s6, s7⟩ := BoxU.cells hSw; go_simp) <;> (with_reducible rfl))
    case hq29 => exact fun _ _ _ h => h
    simp only [List.set_cons_succ, List.set_cons_zero]
    refine name_lst12 (l' := #[true, false, false, false, false, false, false, false, false, false]) (by kernel_rfl) ?_
    refine join7 (d1 := 60) (d2 := 61) (d3 := 62) (d4 := 15) (d5 := 58) (d6 := 63) (d7 := 64) (L := [1, 2, 3, 4, 5, 6, 7]) (fuel' := 2) (fun v1 v2 v3 v4 v5 v6 v7 W' => Join12 w14 (fun sl => .agg #[.int .i64 0, .int .i64 0, .int .i64 0, .int .i64 1, .bool false, sl, .int .i64 3, .int .i64 2]) kT.lg 0 2 v3 v4 v5 v6 v7 W') ?rest ?first
    case first =>
      intro H
      have kbn : Below w14.heap.size w14 w14.drew := (Below.refl _ _).drew
      replace bt : BoxU w14.drew z3 kT (.slice A1 0 c1) := bt
      replace own1 := keepF own1 kbn
      refine wpAnyH_ready (rs := [1, 7]) (by kernel_rfl) (by simp) ?_
      refine two_ready ?_ ?_
      · obtain ⟨g1, hg1⟩ : ∃ z, z = w14.drew.heap.size := ⟨_, rfl⟩
        obtain ⟨x1, hWn⟩ : ∃ x, x = w14.drew.alloc (.cells #[.int .i64 1] 3) := ⟨_, rfl⟩
        have hb : Below w14.drew.heap.size w14.drew x1 := by rw [hWn]; exact below_al (below_d0 _) _
        have hrn : Rd x1 x1.heap.size .i64 (some ⟨g1, 0, none⟩) 1 [1] := by rw [hWn]; exact rd_made w14.drew .i64 3 [1] hg1
        have kbn := below_on kbn hb
        replace bt := bt.below hb
        replace own1 := keepF own1 hb
        refine br_val (i := 1) (d := 60) (oi := ?o30) (v := .slice (some ⟨g1, 0, none⟩) 1 1) (w' := x1) ?hi30 ?hd30 ?hw30 ?he30 bt ?hc30
        case hi30 => (simp only [List.getElem?_toArray, List.getElem?_cons_succ, List.getElem?_cons_zero]; rfl)
        case hd30 => rfl
        case hw30 => rfl
        case he30 => (rw [hWn, hg1]; go_simp <;> with_reducible rfl)
        intro hHeld
        simp only [List.set_cons_succ, List.set_cons_zero]
        clear hWn hg1 hb
        have hr := hrn
        clear hrn
        refine wpAnyH_ready (rs := [2, 7]) (by kernel_rfl) (by simp) ?_
        refine two_ready ?_ ?_
        · refine br_call (i := 2) (d := 61) (oi := ?o31) (f := ?f31) (args := ?a31) ?hi31 ?hd31 ?hw31 ?he31 ?hc31
          case hi31 => (simp only [List.getElem?_toArray, List.getElem?_cons_succ, List.getElem?_cons_zero]; rfl)
          case hd31 => rfl
          case hw31 => rfl
          case he31 => (go_simp; constructor <;> with_reducible rfl)
          refine Calls.mono (some_any 4 (some ⟨g1, 0, none⟩) 1 1 [1] x1 hr (by omega)) ?_
          rintro e x2 ⟨⟨A2, c2, rfl, hc2, own2⟩, hb⟩
          replace own2 := lowF own2 (kbn).size
          have kbn := below_on kbn hb
          replace bt := bt.below hb
          replace own1 := keepF own1 hb
          refine ⟨_, rfl, bt, fun hHeld => ?_⟩
          simp only [List.set_cons_succ, List.set_cons_zero]
          clear hb
          refine wpAnyH_ready (rs := [3, 7]) (by kernel_rfl) (by simp) ?_
          refine two_ready ?_ ?_
          · refine br_call (i := 3) (d := 62) (oi := ?o32) (f := ?f32) (args := ?a32) ?hi32 ?hd32 ?hw32 ?he32 ?hc32
            case hi32 => (simp only [List.getElem?_toArray, List.getElem?_cons_succ, List.getElem?_cons_zero]; rfl)
            case hd32 => rfl
            case hw32 => rfl
            case he32 => (go_simp; constructor <;> with_reducible rfl)
            refine Calls.mono (show Calls Try.prog 10 #[.agg #[.int .i64 0, .int .i64 0, .int .i64 0, .int .i64 1, .bool false, .slice A1 0 c1, .int .i64 3, .int .i64 2], .slice A2 1 c2] x2 (OutF (AppendIs kT (dataL 4 [1])) x2.heap.size x2) from D.append kT A1 0 c1 A2 1 c2 (dataL 4 [1]) x2 (OwnF.es own1) (by omega) (by omega) (mid_of (by decide)) (OwnF.es own2) (by omega) hc2) ?_
            intro e x3 hh
            obtain ⟨A3, c3, rfl, hc3, own3, hb⟩ := OutF.is (x := 2) (n := 0) hh (fun h => ToldIs.same h k8) (by rfl)
            replace own3 := lowF own3 (kbn).size
            have kbn := below_on kbn hb
            replace bt := bt.below hb
            replace own1 := keepF own1 hb
            refine ⟨_, rfl, bt, fun hHeld => ?_⟩
            simp only [List.set_cons_succ, List.set_cons_zero]
            clear hb
            refine take_at (i := 4) (d := 58) (oi := ?o33) (v := ?v33) ?hi33 ?hd33 (by kernel_rfl) (by kernel_rfl) (by kernel_rfl) ?hw33 ?hy33 ?hq33 (by assumption) ?r33
            case hi33 => (simp only [List.getElem?_toArray, List.getElem?_cons_succ, List.getElem?_cons_zero]; rfl)
            case hd33 => rfl
            case hw33 => rfl
            case hy33 => ((intro w hSw; (try dsimp only at hSw); obtain ⟨s0, s1, s2, s3, s4, s5, s6, s7⟩ := BoxU.cells hSw; go_simp) <;> (with_reducible rfl))
            case hq33 => exact fun _ _ _ h => h
            simp only [List.set_cons_succ, List.set_cons_zero]
            refine take_at (i := 5) (d := 63) (oi := ?o34) (v := ?v34) ?hi34 ?hd34 (by kernel_rfl) (by kernel_rfl) (by kernel_rfl) ?hw34 ?hy34 ?hq34 (by assumption) ?r34
            case hi34 => (simp only [List.getElem?_toArray, List.getElem?_cons_succ, List.getElem?_cons_zero]; rfl)
            case hd34 => rfl
            case hw34 => rfl
            case hy34 => ((intro w hSw; (try dsimp only at hSw); obtain ⟨s0, s1, s2, s3, s4, s5, s6, s7⟩ := BoxU.cells hSw; go_simp) <;> (with_reducible rfl))
            case hq34 => exact fun _ _ _ h => h
            simp only [List.set_cons_succ, List.set_cons_zero]
            refine take_at (i := 6) (d := 64) (oi := ?o35) (v := ?v35) ?hi35 ?hd35 (by kernel_rfl) (by kernel_rfl) (by kernel_rfl) ?hw35 ?hy35 ?hq35 (by assumption) ?r35
            case hi35 => (simp only [List.getElem?_toArray, List.getElem?_cons_succ, List.getElem?_cons_zero]; rfl)
            case hd35 => rfl
            case hw35 => rfl
            case hy35 => ((intro w hSw; (try dsimp only at hSw); obtain ⟨s0, s1, s2, s3, s4, s5, s6, s7⟩ := BoxU.cells hSw; go_simp) <;> (with_reducible rfl))
            case hq35 => exact fun _ _ _ h => h
            simp only [List.set_cons_succ, List.set_cons_zero]
            refine wpAnyH_ready (rs := [7]) (by kernel_rfl) (by simp) ?_
            obtain ⟨g7, hg7⟩ : ∃ z, z = x3.heap.size := ⟨_, rfl⟩
            obtain ⟨x4, hWn⟩ : ∃ x, x = x3.alloc (.cells #[.int .i64 0, .int .i64 0, .int .i64 0, .int .i64 0, .bool false, .slice none 0 0, .int .i64 0, .int .i64 0] 26) := ⟨_, rfl⟩
            have hb : Below x3.heap.size x3 x4 := by rw [hWn]; exact below_al (below_d0 _) _
            have bzn : BoxU x4 g7 noneT (.slice none 0 0) := by rw [hWn, hg7]; exact BoxU.new x3 noneT _
            have lz : w14.heap.size ≤ g7 := by rw [hg7]; exact (kbn).size
            have kbn := below_on kbn hb
            replace bt := bt.below hb
            replace own1 := keepF own1 hb
            replace own3 := keepF own3 hb
            refine br_val (i := 7) (d := 15) (oi := ?o36) (v := .pointer (some ⟨g7, 0, none⟩)) (w' := x4) ?hi36 ?hd36 ?hw36 ?he36 bt ?hc36
            case hi36 => (simp only [List.getElem?_toArray, List.getElem?_cons_succ, List.getElem?_cons_zero]; rfl)
            case hd36 => rfl
            case hw36 => rfl
            case he36 => (rw [hWn, hg7]; go_simp <;> with_reducible rfl)
            intro hHeld
            simp only [List.set_cons_succ, List.set_cons_zero]
            clear hWn hg7 hb
            have bz := bzn
            clear bzn
            have HH := H (.slice (some ⟨g1, 0, none⟩) 1 1) (.slice A2 1 c2) _ _ _ _ _ _ ⟨⟨_, _, _, rfl, rfl, rfl, rfl, rfl, hc3, own3, bz, lz, kbn⟩⟩ hHeld
            simp only [List.set_cons_succ, List.set_cons_zero] at HH
            exact name_lst12 (l' := [1, 2, 3, 4, 5, 6, 7].foldl (fun l i => l.setIfInBounds i true) #[true, false, false, false, false, false, false, false, false, false]) (by kernel_rfl) HH
          obtain ⟨g7, hg7⟩ : ∃ z, z = x2.heap.size := ⟨_, rfl⟩
          obtain ⟨x5, hWn⟩ : ∃ x, x = x2.alloc (.cells #[.int .i64 0, .int .i64 0, .int .i64 0, .int .i64 0, .bool false, .slice none 0 0, .int .i64 0, .int .i64 0] 26) := ⟨_, rfl⟩
          have hb : Below x2.heap.size x2 x5 := by rw [hWn]; exact below_al (below_d0 _) _
          have bzn : BoxU x5 g7 noneT (.slice none 0 0) := by rw [hWn, hg7]; exact BoxU.new x2 noneT _
          have lz : w14.heap.size ≤ g7 := by rw [hg7]; exact (kbn).size
          have kbn := below_on kbn hb
          replace bt := bt.below hb
          replace own1 := keepF own1 hb
          replace own2 := keepF own2 hb
          refine br_val (i := 7) (d := 15) (oi := ?o37) (v := .pointer (some ⟨g7, 0, none⟩)) (w' := x5) ?hi37 ?hd37 ?hw37 ?he37 bt ?hc37
          case hi37 => (simp only [List.getElem?_toArray, List.getElem?_cons_succ, List.getElem?_cons_zero]; rfl)
          case hd37 => rfl
          case hw37 => rfl
          case he37 => (rw [hWn, hg7]; go_simp <;> with_reducible rfl)
          intro hHeld
          simp only [List.set_cons_succ, List.set_cons_zero]
          clear hWn hg7 hb
          have bz := bzn
          clear bzn
          refine wpAnyH_ready (rs := [3]) (by kernel_rfl) (by simp) ?_
          refine br_call (i := 3) (d := 62) (oi := ?o38) (f := ?f38) (args := ?a38) ?hi38 ?hd38 ?hw38 ?he38 ?hc38
          case hi38 => (simp only [List.getElem?_toArray, List.getElem?_cons_succ, List.getElem?_cons_zero]; rfl)
          case hd38 => rfl
          case hw38 => rfl
          case he38 => (go_simp; constructor <;> with_reducible rfl)
          refine Calls.mono (show Calls Try.prog 10 #[.agg #[.int .i64 0, .int .i64 0, .int .i64 0, .int .i64 1, .bool false, .slice A1 0 c1, .int .i64 3, .int .i64 2], .slice A2 1 c2] x5 (OutF (AppendIs kT (dataL 4 [1])) x5.heap.size x5) from D.append kT A1 0 c1 A2 1 c2 (dataL 4 [1]) x5 (OwnF.es own1) (by omega) (by omega) (mid_of (by decide)) (OwnF.es own2) (by omega) hc2) ?_
          intro e x6 hh
          obtain ⟨A3, c3, rfl, hc3, own3, hb⟩ := OutF.is (x := 2) (n := 0) hh (fun h => ToldIs.same h k8) (by rfl)
          replace own3 := lowF own3 (kbn).size
          have kbn := below_on kbn hb
          replace bt := bt.below hb
          replace own1 := keepF own1 hb
          replace bz := bz.below hb
          refine ⟨_, rfl, bt, fun hHeld => ?_⟩
          simp only [List.set_cons_succ, List.set_cons_zero]
          clear hb
          refine take_at (i := 4) (d := 58) (oi := ?o39) (v := ?v39) ?hi39 ?hd39 (by kernel_rfl) (by kernel_rfl) (by kernel_rfl) ?hw39 ?hy39 ?hq39 (by assumption) ?r39
          case hi39 => (simp only [List.getElem?_toArray, List.getElem?_cons_succ, List.getElem?_cons_zero]; rfl)
          case hd39 => rfl
          case hw39 => rfl
          case hy39 => ((intro w hSw; (try dsimp only at hSw); obtain ⟨s0, s1, s2, s3, s4, s5, s6, s7⟩ := BoxU.cells hSw; go_simp) <;> (with_reducible rfl))
          case hq39 => exact fun _ _ _ h => h
          simp only [List.set_cons_succ, List.set_cons_zero]
          refine take_at (i := 5) (d := 63) (oi := ?o40) (v := ?v40) ?hi40 ?hd40 (by kernel_rfl) (by kernel_rfl) (by kernel_rfl) ?hw40 ?hy40 ?hq40 (by assumption) ?r40
          case hi40 => (simp only [List.getElem?_toArray, List.getElem?_cons_succ, List.getElem?_cons_zero]; rfl)
          case hd40 => rfl
          case hw40 => rfl
          case hy40 => ((intro w hSw; (try dsimp only at hSw); obtain ⟨s0, s1, s2, s3, s4, s5, s6, s7⟩ := BoxU.cells hSw; go_simp) <;> (with_reducible rfl))
          case hq40 => exact fun _ _ _ h => h
          simp only [List.set_cons_succ, List.set_cons_zero]
          refine take_at (i := 6) (d := 64) (oi := ?o41) (v := ?v41) ?hi41 ?hd41 (by kernel_rfl) (by kernel_rfl) (by kernel_rfl) ?hw41 ?hy41 ?hq41 (by assumption) ?r41
          case hi41 => (simp only [List.getElem?_toArray, List.getElem?_cons_succ, List.getElem?_cons_zero]; rfl)
          case hd41 => rfl
          case hw41 => rfl
          case hy41 => ((intro w hSw; (try dsimp only at hSw); obtain ⟨s0, s1, s2, s3, s4, s5, s6, s7⟩ := BoxU.cells hSw; go_simp) <;> (with_reducible rfl))
          case hq41 => exact fun _ _ _ h => h
          simp only [List.set_cons_succ, List.set_cons_zero]
          have HH := H (.slice (some ⟨g1, 0, none⟩) 1 1) (.slice A2 1 c2) _ _ _ _ _ _ ⟨⟨_, _, _, rfl, rfl, rfl, rfl, rfl, hc3, own3, bz, lz, kbn⟩⟩ hHeld
          simp only [List.set_cons_succ, List.set_cons_zero] at HH
          exact name_lst12 (l' := [1, 2, 3, 4, 5, 6, 7].foldl (fun l i => l.setIfInBounds i true) #[true, false, false, false, false, false, false, false, false, false]) (by kernel_rfl) HH
        obtain ⟨g7, hg7⟩ : ∃ z, z = x1.heap.size := ⟨_, rfl⟩
        obtain ⟨x7, hWn⟩ : ∃ x, x = x1.alloc (.cells #[.int .i64 0, .int .i64 0, .int .i64 0, .int .i64 0, .bool false, .slice none 0 0, .int .i64 0, .int .i64 0] 26) := ⟨_, rfl⟩
        have hb : Below x1.heap.size x1 x7 := by rw [hWn]; exact below_al (below_d0 _) _
        have bzn : BoxU x7 g7 noneT (.slice none 0 0) := by rw [hWn, hg7]; exact BoxU.new x1 noneT _
        have lz : w14.heap.size ≤ g7 := by rw [hg7]; exact (kbn).size
        have kbn := below_on kbn hb
        replace bt := bt.below hb
        replace own1 := keepF own1 hb
        replace hr := hr.on hb hb.size
        refine br_val (i := 7) (d := 15) (oi := ?o42) (v := .pointer (some ⟨g7, 0, none⟩)) (w' := x7) ?hi42 ?hd42 ?hw42 ?he42 bt ?hc42
        case hi42 => (simp only [List.getElem?_toArray, List.getElem?_cons_succ, List.getElem?_cons_zero]; rfl)
        case hd42 => rfl
        case hw42 => rfl
        case he42 => (rw [hWn, hg7]; go_simp <;> with_reducible rfl)
        intro hHeld
        simp only [List.set_cons_succ, List.set_cons_zero]
        clear hWn hg7 hb
        have bz := bzn
        clear bzn
        refine wpAnyH_ready (rs := [2]) (by kernel_rfl) (by simp) ?_
        refine br_call (i := 2) (d := 61) (oi := ?o43) (f := ?f43) (args := ?a43) ?hi43 ?hd43 ?hw43 ?he43 ?hc43
        case hi43 => (simp only [List.getElem?_toArray, List.getElem?_cons_succ, List.getElem?_cons_zero]; rfl)
        case hd43 => rfl
        case hw43 => rfl
        case he43 => (go_simp; constructor <;> with_reducible rfl)
        refine Calls.mono (some_any 4 (some ⟨g1, 0, none⟩) 1 1 [1] x7 hr (by omega)) ?_
        rintro e x8 ⟨⟨A2, c2, rfl, hc2, own2⟩, hb⟩
        replace own2 := lowF own2 (kbn).size
        have kbn := below_on kbn hb
        replace bt := bt.below hb
        replace own1 := keepF own1 hb
        replace bz := bz.below hb
        refine ⟨_, rfl, bt, fun hHeld => ?_⟩
        simp only [List.set_cons_succ, List.set_cons_zero]
        clear hb
        refine wpAnyH_ready (rs := [3]) (by kernel_rfl) (by simp) ?_
        refine br_call (i := 3) (d := 62) (oi := ?o44) (f := ?f44) (args := ?a44) ?hi44 ?hd44 ?hw44 ?he44 ?hc44
        case hi44 => (simp only [List.getElem?_toArray, List.getElem?_cons_succ, List.getElem?_cons_zero]; rfl)
        case hd44 => rfl
        case hw44 => rfl
        case he44 => (go_simp; constructor <;> with_reducible rfl)
        refine Calls.mono (show Calls Try.prog 10 #[.agg #[.int .i64 0, .int .i64 0, .int .i64 0, .int .i64 1, .bool false, .slice A1 0 c1, .int .i64 3, .int .i64 2], .slice A2 1 c2] x8 (OutF (AppendIs kT (dataL 4 [1])) x8.heap.size x8) from D.append kT A1 0 c1 A2 1 c2 (dataL 4 [1]) x8 (OwnF.es own1) (by omega) (by omega) (mid_of (by decide)) (OwnF.es own2) (by omega) hc2) ?_
        intro e x9 hh
        obtain ⟨A3, c3, rfl, hc3, own3, hb⟩ := OutF.is (x := 2) (n := 0) hh (fun h => ToldIs.same h k8) (by rfl)
        replace own3 := lowF own3 (kbn).size
        have kbn := below_on kbn hb
        replace bt := bt.below hb
        replace own1 := keepF own1 hb
        replace bz := bz.below hb
        refine ⟨_, rfl, bt, fun hHeld => ?_⟩
        simp only [List.set_cons_succ, List.set_cons_zero]
        clear hb
        refine take_at (i := 4) (d := 58) (oi := ?o45) (v := ?v45) ?hi45 ?hd45 (by kernel_rfl) (by kernel_rfl) (by kernel_rfl) ?hw45 ?hy45 ?hq45 (by assumption) ?r45
        case hi45 => (simp only [List.getElem?_toArray, List.getElem?_cons_succ, List.getElem?_cons_zero]; rfl)
        case hd45 => rfl
        case hw45 => rfl
        case hy45 => ((intro w hSw; (try dsimp only at hSw); obtain ⟨s0, s1, s2, s3, s4, s5, s6, s7⟩ := BoxU.cells hSw; go_simp) <;> (with_reducible rfl))
        case hq45 => exact fun _ _ _ h => h
        simp only [List.set_cons_succ, List.set_cons_zero]
        refine take_at (i := 5) (d := 63) (oi := ?o46) (v := ?v46) ?hi46 ?hd46 (by kernel_rfl) (by kernel_rfl) (by kernel_rfl) ?hw46 ?hy46 ?hq46 (by assumption) ?r46
        case hi46 => (simp only [List.getElem?_toArray, List.getElem?_cons_succ, List.getElem?_cons_zero]; rfl)
        case hd46 => rfl
        case hw46 => rfl
        case hy46 => ((intro w hSw; (try dsimp only at hSw); obtain ⟨s0, s1, s2, s3, s4, s5, s6, s7⟩ := BoxU.cells hSw; go_simp) <;> (with_reducible rfl))
        case hq46 => exact fun _ _ _ h => h
        simp only [List.set_cons_succ, List.set_cons_zero]
        refine take_at (i := 6) (d := 64) (oi := ?o47) (v := ?v47) ?hi47 ?hd47 (by kernel_rfl) (by kernel_rfl) (by kernel_rfl) ?hw47 ?hy47 ?hq47 (by assumption) ?r47
        case hi47 => (simp only [List.getElem?_toArray, List.getElem?_cons_succ, List.getElem?_cons_zero]; rfl)
        case hd47 => rfl
        case hw47 => rfl
        case hy47 => ((intro w hSw; (try dsimp only at hSw); obtain ⟨s0, s1, s2, s3, s4, s5, s6, s7⟩ := BoxU.cells hSw; go_simp) <;> (with_reducible rfl))
        case hq47 => exact fun _ _ _ h => h
        simp only [List.set_cons_succ, List.set_cons_zero]
        have HH := H (.slice (some ⟨g1, 0, none⟩) 1 1) (.slice A2 1 c2) _ _ _ _ _ _ ⟨⟨_, _, _, rfl, rfl, rfl, rfl, rfl, hc3, own3, bz, lz, kbn⟩⟩ hHeld
        simp only [List.set_cons_succ, List.set_cons_zero] at HH
        exact name_lst12 (l' := [1, 2, 3, 4, 5, 6, 7].foldl (fun l i => l.setIfInBounds i true) #[true, false, false, false, false, false, false, false, false, false]) (by kernel_rfl) HH
      obtain ⟨g7, hg7⟩ : ∃ z, z = w14.drew.heap.size := ⟨_, rfl⟩
      obtain ⟨x10, hWn⟩ : ∃ x, x = w14.drew.alloc (.cells #[.int .i64 0, .int .i64 0, .int .i64 0, .int .i64 0, .bool false, .slice none 0 0, .int .i64 0, .int .i64 0] 26) := ⟨_, rfl⟩
      have hb : Below w14.drew.heap.size w14.drew x10 := by rw [hWn]; exact below_al (below_d0 _) _
      have bzn : BoxU x10 g7 noneT (.slice none 0 0) := by rw [hWn, hg7]; exact BoxU.new w14.drew noneT _
      have lz : w14.heap.size ≤ g7 := by rw [hg7]; exact (kbn).size
      have kbn := below_on kbn hb
      replace bt := bt.below hb
      replace own1 := keepF own1 hb
      refine br_val (i := 7) (d := 15) (oi := ?o48) (v := .pointer (some ⟨g7, 0, none⟩)) (w' := x10) ?hi48 ?hd48 ?hw48 ?he48 bt ?hc48
      case hi48 => (simp only [List.getElem?_toArray, List.getElem?_cons_succ, List.getElem?_cons_zero]; rfl)
      case hd48 => rfl
      case hw48 => rfl
      case he48 => (rw [hWn, hg7]; go_simp <;> with_reducible rfl)
      intro hHeld
      simp only [List.set_cons_succ, List.set_cons_zero]
      clear hWn hg7 hb
      have bz := bzn
      clear bzn
      refine wpAnyH_ready (rs := [1]) (by kernel_rfl) (by simp) ?_
      obtain ⟨g1, hg1⟩ : ∃ z, z = x10.heap.size := ⟨_, rfl⟩
      obtain ⟨x11, hWn⟩ : ∃ x, x = x10.alloc (.cells #[.int .i64 1] 3) := ⟨_, rfl⟩
      have hb : Below x10.heap.size x10 x11 := by rw [hWn]; exact below_al (below_d0 _) _
      have hrn : Rd x11 x11.heap.size .i64 (some ⟨g1, 0, none⟩) 1 [1] := by rw [hWn]; exact rd_made x10 .i64 3 [1] hg1
      have kbn := below_on kbn hb
      replace bt := bt.below hb
      replace own1 := keepF own1 hb
      replace bz := bz.below hb
      refine br_val (i := 1) (d := 60) (oi := ?o49) (v := .slice (some ⟨g1, 0, none⟩) 1 1) (w' := x11) ?hi49 ?hd49 ?hw49 ?he49 bt ?hc49
      case hi49 => (simp only [List.getElem?_toArray, List.getElem?_cons_succ, List.getElem?_cons_zero]; rfl)
      case hd49 => rfl
      case hw49 => rfl
      case he49 => (rw [hWn, hg1]; go_simp <;> with_reducible rfl)
      intro hHeld
      simp only [List.set_cons_succ, List.set_cons_zero]
      clear hWn hg1 hb
      have hr := hrn
      clear hrn
      refine wpAnyH_ready (rs := [2]) (by kernel_rfl) (by simp) ?_
      refine br_call (i := 2) (d := 61) (oi := ?o50) (f := ?f50) (args := ?a50) ?hi50 ?hd50 ?hw50 ?he50 ?hc50
      case hi50 => (simp only [List.getElem?_toArray, List.getElem?_cons_succ, List.getElem?_cons_zero]; rfl)
      case hd50 => rfl
      case hw50 => rfl
      case he50 => (go_simp; constructor <;> with_reducible rfl)
      refine Calls.mono (some_any 4 (some ⟨g1, 0, none⟩) 1 1 [1] x11 hr (by omega)) ?_
      rintro e x12 ⟨⟨A2, c2, rfl, hc2, own2⟩, hb⟩
      replace own2 := lowF own2 (kbn).size
      have kbn := below_on kbn hb
      replace bt := bt.below hb
      replace own1 := keepF own1 hb
      replace bz := bz.below hb
      refine ⟨_, rfl, bt, fun hHeld => ?_⟩
      simp only [List.set_cons_succ, List.set_cons_zero]
      clear hb
      refine wpAnyH_ready (rs := [3]) (by kernel_rfl) (by simp) ?_
      refine br_call (i := 3) (d := 62) (oi := ?o51) (f := ?f51) (args := ?a51) ?hi51 ?hd51 ?hw51 ?he51 ?hc51
      case hi51 => (simp only [List.getElem?_toArray, List.getElem?_cons_succ, List.getElem?_cons_zero]; rfl)
      case hd51 => rfl
      case hw51 => rfl
      case he51 => (go_simp; constructor <;> with_reducible rfl)
      refine Calls.mono (show Calls Try.prog 10 #[.agg #[.int .i64 0, .int .i64 0, .int .i64 0, .int .i64 1, .bool false, .slice A1 0 c1, .int .i64 3, .int .i64 2], .slice A2 1 c2] x12 (OutF (AppendIs kT (dataL 4 [1])) x12.heap.size x12) from D.append kT A1 0 c1 A2 1 c2 (dataL 4 [1]) x12 (OwnF.es own1) (by omega) (by omega) (mid_of (by decide)) (OwnF.es own2) (by omega) hc2) ?_
      intro e x13 hh
      obtain ⟨A3, c3, rfl, hc3, own3, hb⟩ := OutF.is (x := 2) (n := 0) hh (fun h => ToldIs.same h k8) (by rfl)
      replace own3 := lowF own3 (kbn).size
      have kbn := below_on kbn hb
      replace bt := bt.below hb
      replace own1 := keepF own1 hb
      replace bz := bz.below hb
      refine ⟨_, rfl, bt, fun hHeld => ?_⟩
      simp only [List.set_cons_succ, List.set_cons_zero]
      clear hb
      refine take_at (i := 4) (d := 58) (oi := ?o52) (v := ?v52) ?hi52 ?hd52 (by kernel_rfl) (by kernel_rfl) (by kernel_rfl) ?hw52 ?hy52 ?hq52 (by assumption) ?r52
      case hi52 => (simp only [List.getElem?_toArray, List.getElem?_cons_succ, List.getElem?_cons_zero]; rfl)
      case hd52 => rfl
      case hw52 => rfl
      case hy52 => ((intro w hSw; (try dsimp only at hSw); obtain ⟨s0, s1, s2, s3, s4, s5, s6, s7⟩ := BoxU.cells hSw; go_simp) <;> (with_reducible rfl))
      case hq52 => exact fun _ _ _ h => h
      simp only [List.set_cons_succ, List.set_cons_zero]
      refine take_at (i := 5) (d := 63) (oi := ?o53) (v := ?v53) ?hi53 ?hd53 (by kernel_rfl) (by kernel_rfl) (by kernel_rfl) ?hw53 ?hy53 ?hq53 (by assumption) ?r53
      case hi53 => (simp only [List.getElem?_toArray, List.getElem?_cons_succ, List.getElem?_cons_zero]; rfl)
      case hd53 => rfl
      case hw53 => rfl
      case hy53 => ((intro w hSw; (try dsimp only at hSw); obtain ⟨s0, s1, s2, s3, s4, s5, s6, s7⟩ := BoxU.cells hSw; go_simp) <;> (with_reducible rfl))
      case hq53 => exact fun _ _ _ h => h
      simp only [List.set_cons_succ, List.set_cons_zero]
      refine take_at (i := 6) (d := 64) (oi := ?o54) (v := ?v54) ?hi54 ?hd54 (by kernel_rfl) (by kernel_rfl) (by kernel_rfl) ?hw54 ?hy54 ?hq54 (by assumption) ?r54
      case hi54 => (simp only [List.getElem?_toArray, List.getElem?_cons_succ, List.getElem?_cons_zero]; rfl)
      case hd54 => rfl
      case hw54 => rfl
      case hy54 => ((intro w hSw; (try dsimp only at hSw); obtain ⟨s0, s1, s2, s3, s4, s5, s6, s7⟩ := BoxU.cells hSw; go_simp) <;> (with_reducible rfl))
      case hq54 => exact fun _ _ _ h => h
      simp only [List.set_cons_succ, List.set_cons_zero]
      have HH := H (.slice (some ⟨g1, 0, none⟩) 1 1) (.slice A2 1 c2) _ _ _ _ _ _ ⟨⟨_, _, _, rfl, rfl, rfl, rfl, rfl, hc3, own3, bz, lz, kbn⟩⟩ hHeld
      simp only [List.set_cons_succ, List.set_cons_zero] at HH
      exact name_lst12 (l' := [1, 2, 3, 4, 5, 6, 7].foldl (fun l i => l.setIfInBounds i true) #[true, false, false, false, false, false, false, false, false, false]) (by kernel_rfl) HH
    case rest =>
      rintro v1 v2 v3 v4 v5 v6 v7 W' ⟨⟨A8, c8, z15, rfl, rfl, rfl, rfl, rfl, hc8, own8, bz, lz, kb⟩⟩ hHeld
      simp only [List.set_cons_succ, List.set_cons_zero]
      clear bt own1
      obtain ⟨bt, own1, bu, bv, bs, bw, bx, own3, own4, own5, own6⟩ := HO1.out
      have hne : z3 ≠ z15 := by omega
      have lbt := bt.lt
      replace bt := bt.below kb
      have lbu := bu.lt
      replace bu := bu.below kb
      have lbv := bv.lt
      replace bv := bv.below kb
      have lbs := bs.lt
      replace bs := bs.below kb
      have lbw := bw.lt
      replace bw := bw.below kb
      have lbx := bx.lt
      replace bx := bx.below kb
      replace own1 := keepF own1 kb
      replace own3 := keepF own3 kb
      replace own4 := keepF own4 kb
      replace own5 := keepF own5 kb
      replace own6 := keepF own6 kb
      obtain ⟨w15, hw15⟩ : ∃ x, x = putU W' z15 kT (.slice A8 0 c8) := ⟨_, rfl⟩
      have bt9 : BoxU w15 z3 kT (.slice A1 0 c1) := by rw [hw15]; exact putU_boxes bt (by omega)
      have bu9 : BoxU w15 z4 kU (.slice A3 3 c3) := by rw [hw15]; exact putU_boxes bu (by omega)
      have bv9 : BoxU w15 z6 kV (.slice A4 2 c4) := by rw [hw15]; exact putU_boxes bv (by omega)
      have bs9 : BoxS w15 z8 kS := by rw [hw15]; exact (putU_other kT _ (by omega)).trans bs
      have bw9 : BoxU w15 z10 kW (.slice A5 1 c5) := by rw [hw15]; exact putU_boxes bw (by omega)
      have bx9 : BoxU w15 z12 kX (.slice A6 0 c6) := by rw [hw15]; exact putU_boxes bx (by omega)
      have own19 := putU_ownF (m := kT) (x := .slice A8 0 c8) bz own1
      rw [← hw15] at own19
      have own39 := putU_ownF (m := kT) (x := .slice A8 0 c8) bz own3
      rw [← hw15] at own39
      have own49 := putU_ownF (m := kT) (x := .slice A8 0 c8) bz own4
      rw [← hw15] at own49
      have own59 := putU_ownF (m := kT) (x := .slice A8 0 c8) bz own5
      rw [← hw15] at own59
      have own69 := putU_ownF (m := kT) (x := .slice A8 0 c8) bz own6
      rw [← hw15] at own69
      have own89 := putU_ownF (m := kT) (x := .slice A8 0 c8) bz own8
      rw [← hw15] at own89
      have bl : BoxU w15 z15 kT (.slice A8 0 c8) := by rw [hw15]; exact putU_box bz kT _
      have kb9 : Below w14.heap.size w14 w15 := by rw [hw15]; exact putU_below lz kT _ kb
      have e9 : w15 = ((((((((W'.setCell ⟨z15, 0, none⟩ (.int .i64 0)).setCell ⟨z15, 1, none⟩ (.int .i64 0)).setCell ⟨z15, 2, none⟩ (.int .i64 0)).setCell ⟨z15, 3, none⟩ (.int .i64 1)).setCell ⟨z15, 4, none⟩ (.bool false)).setCell ⟨z15, 5, none⟩ (.slice A8 0 c8)).setCell ⟨z15, 6, none⟩ (.int .i64 3)).setCell ⟨z15, 7, none⟩ (.int .i64 2)) := hw15
      obtain ⟨g0, g1, g2, g3, g4, g5, g6, g7⟩ := bz.cells
      have f0 := bz.frozen 0
      have f1 := bz.frozen 1
      have f2 := bz.frozen 2
      have f3 := bz.frozen 3
      have f4 := bz.frozen 4
      have f5 := bz.frozen 5
      have f6 := bz.frozen 6
      have f7 := bz.frozen 7
      refine wpAnyH_ready (rs := [8]) (by kernel_rfl) (by simp) ?_
      refine br_store (i := 8) (oi := ?o55) (w' := w15) ?hi55 ?hd55 ?hw55 ?he55 bt9 ?hc55
      case hi55 => (simp only [List.getElem?_toArray, List.getElem?_cons_succ, List.getElem?_cons_zero]; rfl)
      case hd55 => rfl
      case hw55 => rfl
      case he55 => (rw [e9]; go_simp <;> with_reducible rfl)
      intro hHeld
      clear e9 g0 g1 g2 g3 g4 g5 g6 g7 f0 f1 f2 f3 f4 f5 f6 f7
      refine take_at (i := 9) (d := 16) (oi := ?o56) (v := ?v56) ?hi56 ?hd56 (by kernel_rfl) (by kernel_rfl) (by kernel_rfl) ?hw56 ?hy56 ?hq56 (by assumption) ?r56
      case hi56 => (simp only [List.getElem?_toArray, List.getElem?_cons_succ, List.getElem?_cons_zero]; rfl)
      case hd56 => rfl
      case hw56 => rfl
      case hy56 => ((intro w hSw; (try dsimp only at hSw); obtain ⟨s0, s1, s2, s3, s4, s5, s6, s7⟩ := BoxU.cells hSw; go_simp) <;> (with_reducible rfl))
      case hq56 => exact fun _ _ _ h => h
      simp only [List.set_cons_succ, List.set_cons_zero]
      refine wpAnyH_done (by kernel_rfl) ?_ _
      have B15 := B14.trans (kb9.mono B14.size)
      clear hHeld hw15 bz kb hne lz HO1 kb9 hbtl own1 own3 own4 own5 own6 own8 bt bu bv bs bw bx lbt lbu lbv lbs lbw lbx
      have own1 := own19
      clear own19
      have own3 := own39
      clear own39
      have own4 := own49
      clear own49
      have own5 := own59
      clear own59
      have own6 := own69
      clear own69
      have own8 := own89
      clear own89
      have bt := bt9
      clear bt9
      have bu := bu9
      clear bu9
      have bv := bv9
      clear bv9
      have bs := bs9
      clear bs9
      have bw := bw9
      clear bw9
      have bx := bx9
      clear bx9
      clear bl own8
      have k0 : w15.cell? ⟨z10, 0, none⟩ = some (.int .i64 1) := bw.cells.1
      have k1 : w15.cell? ⟨z10, 1, none⟩ = some (.int .i64 2) := bw.cells.2.1
      have k2 : w15.cell? ⟨z10, 2, none⟩ = some (.int .i64 6) := bw.cells.2.2.1
      have k3 : w15.cell? ⟨z10, 3, none⟩ = some (.int .i64 1) := bw.cells.2.2.2.1
      have k4 : w15.cell? ⟨z10, 4, none⟩ = some (.bool false) := bw.cells.2.2.2.2.1
      have k5 : w15.cell? ⟨z10, 5, none⟩ = some (.slice A5 1 c5) := bw.cells.2.2.2.2.2.1
      have k6 : w15.cell? ⟨z10, 6, none⟩ = some (.int .i64 3) := bw.cells.2.2.2.2.2.2.1
      have k7 : w15.cell? ⟨z10, 7, none⟩ = some (.int .i64 2) := bw.cells.2.2.2.2.2.2.2
      go_wp2_with fail
      clear k0 k1 k2 k3 k4 k5 k6 k7
      refine Calls.mono (show Calls Try.prog 21 #[.agg #[.int .i64 1, .int .i64 2, .int .i64 6, .int .i64 1, .bool false, .slice A5 1 c5, .int .i64 3, .int .i64 2], .int .i64 2] w15 (fun e w' => e = .returned (.tuple #[.int .i64 2, .bool true]) ∧ Below w15.heap.size w15 w') from by have h := D.termAt kW A5 1 c5 2 w15 (OwnF.es own5) (by omega) (mid_of (by decide)) (Mid.i64 (mid_of (by decide))); rw [term_yes k9] at h; exact h) ?_
      intro e w16 hh
      obtain ⟨rfl, bb⟩ := hh
      (try clear hh)
      replace own1 := keepF own1 bb
      replace own3 := keepF own3 bb
      replace own4 := keepF own4 bb
      replace own5 := keepF own5 bb
      replace own6 := keepF own6 bb
      replace bt := bt.below bb
      replace bu := bu.below bb
      replace bv := bv.below bb
      replace bs := bs.below bb
      replace bw := bw.below bb
      replace bx := bx.below bb
      have B16 := B15.trans (bb.mono B15.size)
      clear bb B15
      go_wp2_with fail
      refine Calls.mono (D.first w16) ?_
      intro e w17 hh
      obtain ⟨⟨A9, n9, c9, rfl, hc9, own9⟩, bb⟩ := hh
      (try clear hh)
      replace own1 := keepF own1 bb
      replace own3 := keepF own3 bb
      replace own4 := keepF own4 bb
      replace own5 := keepF own5 bb
      replace own6 := keepF own6 bb
      replace bt := bt.below bb
      replace bu := bu.below bb
      replace bv := bv.below bb
      replace bs := bs.below bb
      replace bw := bw.below bb
      replace bx := bx.below bb
      have B17 := B16.trans (bb.mono B16.size)
      clear bb B16
      obtain rfl : n9 = 0 := (lenF own9).symm
      unfold tupV firstT firstP
      go_wp2_with fail
      refine Calls.mono (show Calls Try.prog 29 #[.agg #[.int .i64 0, .int .i64 0, .int .i64 0, .int .i64 1, .bool false, .slice A9 0 c9, .int .i64 0, .int .i64 0]] w17 (fun e w' => e = .returned (.int .i64 0) ∧ Below w17.heap.size w17 w') from D.last firstT A9 0 c9 w17 (OwnF.es own9) (by omega) (mid_of (by decide))) ?_
      intro e w18 hh
      obtain ⟨rfl, bb⟩ := hh
      (try clear hh)
      replace own1 := keepF own1 bb
      replace own3 := keepF own3 bb
      replace own4 := keepF own4 bb
      replace own5 := keepF own5 bb
      replace own6 := keepF own6 bb
      replace own9 := keepF own9 bb
      replace bt := bt.below bb
      replace bu := bu.below bb
      replace bv := bv.below bb
      replace bs := bs.below bb
      replace bw := bw.below bb
      replace bx := bx.below bb
      have B18 := B17.trans (bb.mono B17.size)
      clear bb B17
      clear own9
      have k0 : w18.cell? ⟨z4, 0, none⟩ = some (.int .i64 0) := bu.cells.1
      have k1 : w18.cell? ⟨z4, 1, none⟩ = some (.int .i64 0) := bu.cells.2.1
      have k2 : w18.cell? ⟨z4, 2, none⟩ = some (.int .i64 0) := bu.cells.2.2.1
      have k3 : w18.cell? ⟨z4, 3, none⟩ = some (.int .i64 1) := bu.cells.2.2.2.1
      have k4 : w18.cell? ⟨z4, 4, none⟩ = some (.bool false) := bu.cells.2.2.2.2.1
      have k5 : w18.cell? ⟨z4, 5, none⟩ = some (.slice A3 3 c3) := bu.cells.2.2.2.2.2.1
      have k6 : w18.cell? ⟨z4, 6, none⟩ = some (.int .i64 3) := bu.cells.2.2.2.2.2.2.1
      have k7 : w18.cell? ⟨z4, 7, none⟩ = some (.int .i64 2) := bu.cells.2.2.2.2.2.2.2
      go_wp2_with fail
      clear k0 k1 k2 k3 k4 k5 k6 k7
      refine Calls.mono (show Calls Try.prog 29 #[.agg #[.int .i64 0, .int .i64 0, .int .i64 0, .int .i64 1, .bool false, .slice A3 3 c3, .int .i64 3, .int .i64 2]] w18 (fun e w' => e = .returned (.int .i64 3) ∧ Below w18.heap.size w18 w') from D.last kU A3 3 c3 w18 (OwnF.es own3) (by omega) (mid_of (by decide))) ?_
      intro e w19 hh
      obtain ⟨rfl, bb⟩ := hh
      (try clear hh)
      replace own1 := keepF own1 bb
      replace own3 := keepF own3 bb
      replace own4 := keepF own4 bb
      replace own5 := keepF own5 bb
      replace own6 := keepF own6 bb
      replace bt := bt.below bb
      replace bu := bu.below bb
      replace bv := bv.below bb
      replace bs := bs.below bb
      replace bw := bw.below bb
      replace bx := bx.below bb
      have B19 := B18.trans (bb.mono B18.size)
      clear bb B18
      have qst : ∀ W : World, (binOp .eql 23 (.agg #[.int .i64 1, .int .i64 2, .int .i64 6, .int .i64 1, .bool false]) (.agg #[.int .i64 1, .int .i64 2, .int .i64 6, .int .i64 1, .bool false])).run Try.prog W = .ok (.bool true) W := fun W => by have h := eql_st kS kS W; rw [decide_eq_true rfl] at h; exact h
      have k0 : w19.cell? ⟨z6, 0, none⟩ = some (.int .i64 0) := bv.cells.1
      have k1 : w19.cell? ⟨z6, 1, none⟩ = some (.int .i64 0) := bv.cells.2.1
      have k2 : w19.cell? ⟨z6, 2, none⟩ = some (.int .i64 0) := bv.cells.2.2.1
      have k3 : w19.cell? ⟨z6, 3, none⟩ = some (.int .i64 1) := bv.cells.2.2.2.1
      have k4 : w19.cell? ⟨z6, 4, none⟩ = some (.bool false) := bv.cells.2.2.2.2.1
      have k5 : w19.cell? ⟨z6, 5, none⟩ = some (.slice A4 2 c4) := bv.cells.2.2.2.2.2.1
      have k6 : w19.cell? ⟨z6, 6, none⟩ = some (.int .i64 3) := bv.cells.2.2.2.2.2.2.1
      have k7 : w19.cell? ⟨z6, 7, none⟩ = some (.int .i64 2) := bv.cells.2.2.2.2.2.2.2
      have j0 : w19.cell? ⟨z10, 0, none⟩ = some (.int .i64 1) := bw.cells.1
      have j1 : w19.cell? ⟨z10, 1, none⟩ = some (.int .i64 2) := bw.cells.2.1
      have j2 : w19.cell? ⟨z10, 2, none⟩ = some (.int .i64 6) := bw.cells.2.2.1
      have j3 : w19.cell? ⟨z10, 3, none⟩ = some (.int .i64 1) := bw.cells.2.2.2.1
      have j4 : w19.cell? ⟨z10, 4, none⟩ = some (.bool false) := bw.cells.2.2.2.2.1
      have j5 : w19.cell? ⟨z10, 5, none⟩ = some (.slice A5 1 c5) := bw.cells.2.2.2.2.2.1
      have j6 : w19.cell? ⟨z10, 6, none⟩ = some (.int .i64 3) := bw.cells.2.2.2.2.2.2.1
      have j7 : w19.cell? ⟨z10, 7, none⟩ = some (.int .i64 2) := bw.cells.2.2.2.2.2.2.2
      have m0 : w19.cell? ⟨z12, 0, none⟩ = some (.int .i64 9) := bx.cells.1
      have m1 : w19.cell? ⟨z12, 1, none⟩ = some (.int .i64 3) := bx.cells.2.1
      have m2 : w19.cell? ⟨z12, 2, none⟩ = some (.int .i64 0) := bx.cells.2.2.1
      have m3 : w19.cell? ⟨z12, 3, none⟩ = some (.int .i64 2) := bx.cells.2.2.2.1
      have m4 : w19.cell? ⟨z12, 4, none⟩ = some (.bool false) := bx.cells.2.2.2.2.1
      have m5 : w19.cell? ⟨z12, 5, none⟩ = some (.slice A6 0 c6) := bx.cells.2.2.2.2.2.1
      have m6 : w19.cell? ⟨z12, 6, none⟩ = some (.int .i64 3) := bx.cells.2.2.2.2.2.2.1
      have m7 : w19.cell? ⟨z12, 7, none⟩ = some (.int .i64 2) := bx.cells.2.2.2.2.2.2.2
      have i0 : w19.cell? ⟨z8, 0, none⟩ = some (.int .i64 1) := bs.cells.1
      have i1 : w19.cell? ⟨z8, 1, none⟩ = some (.int .i64 2) := bs.cells.2.1
      have i2 : w19.cell? ⟨z8, 2, none⟩ = some (.int .i64 6) := bs.cells.2.2.1
      have i3 : w19.cell? ⟨z8, 3, none⟩ = some (.int .i64 1) := bs.cells.2.2.2.1
      have i4 : w19.cell? ⟨z8, 4, none⟩ = some (.bool false) := bs.cells.2.2.2.2
      go_wp2_with fail
      clear k0 k1 k2 k3 k4 k5 k6 k7
      clear j0 j1 j2 j3 j4 j5 j6 j7
      clear m0 m1 m2 m3 m4 m5 m6 m7
      clear i0 i1 i2 i3 i4
      clear qst
      refine Calls.mono (show Calls Try.prog 27 #[.agg #[.int .i64 9, .int .i64 3, .int .i64 0, .int .i64 2, .bool false, .slice A6 0 c6, .int .i64 3, .int .i64 2]] w19 (fun e w' => (∃ b, MayIs kX b ∧ e = .returned (.bool b)) ∧ Below w19.heap.size w19 w') from D.right kX A6 0 c6 w19 (OwnF.es own6) (by omega) (mid_of (by decide))) ?_
      intro e w20 hh
      obtain ⟨⟨b, hb, rfl⟩, bb⟩ := hh
      (try clear hh)
      replace own1 := keepF own1 bb
      replace own3 := keepF own3 bb
      replace own4 := keepF own4 bb
      replace own5 := keepF own5 bb
      replace own6 := keepF own6 bb
      replace bt := bt.below bb
      replace bu := bu.below bb
      replace bv := bv.below bb
      replace bs := bs.below bb
      replace bw := bw.below bb
      replace bx := bx.below bb
      have B20 := B19.trans (bb.mono B19.size)
      clear bb B19
      obtain rfl := hb.same mayX
      clear hb
      go_wp2_with fail
      refine Calls.mono (show Calls Try.prog 27 #[.agg #[.int .i64 0, .int .i64 0, .int .i64 0, .int .i64 0, .bool false, .slice none 0 0, .int .i64 0, .int .i64 0]] w20 (fun e w' => (∃ b, MayIs noneT b ∧ e = .returned (.bool b)) ∧ Below w20.heap.size w20 w') from D.right noneT none 0 0 w20 Row.nil (by omega) (mid_of (by decide))) ?_
      intro e w21 hh
      obtain ⟨⟨b, hb, rfl⟩, bb⟩ := hh
      (try clear hh)
      replace own1 := keepF own1 bb
      replace own3 := keepF own3 bb
      replace own4 := keepF own4 bb
      replace own5 := keepF own5 bb
      replace own6 := keepF own6 bb
      replace bt := bt.below bb
      replace bu := bu.below bb
      replace bv := bv.below bb
      replace bs := bs.below bb
      replace bw := bw.below bb
      replace bx := bx.below bb
      have B21 := B20.trans (bb.mono B20.size)
      clear bb B20
      obtain rfl := hb.same mayN
      clear hb
      go_wp2_with fail
      go_ret
      exact ⟨rfl, B21⟩
end Go.Proofs.Ytbhnlmlaebngmaa
