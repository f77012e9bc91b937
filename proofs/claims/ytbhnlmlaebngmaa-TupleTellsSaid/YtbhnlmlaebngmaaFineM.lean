/-
  entry.Fine, First, the document's Fine, First: their contracts; '==' of states; a state's box (stage 6's texts, as one).
-/
import Derived.Test.YtbhnlmlaebngmaaEntM
import Derived.ChangeKeysEq
import Derived.Deep.DeepCutAuto
import Derived.RangeFuncRecord
namespace Go.Proofs.Ytbhnlmlaebngmaa
open Go.RowKit

theorem first_any (w : World) : Calls Try.prog 57 #[] w fun r w' => r = .returned firstP.v ∧ Below w.heap.size w w' := by
  go_enter Try.func57, Try.ntmps57
  go_wp2_with fail
  exact bodyPost_ret (v := .agg #[.int .i64 0, .int .i64 0, .int .i64 0, .int .i64 1, .bool false]) (by simp [results, Try.results57, go_sem]) rfl ⟨rfl, below_al (below_d0 w) _⟩
theorem rfirst_any (w : World) : Calls Try.prog 58 #[] w fun r w' => r = .returned firstP.v ∧ Below w.heap.size w w' := by
  go_enter Try.func58, Try.ntmps58
  go_wp2_with fail
  exact bodyPost_ret (v := .agg #[.int .i64 0, .int .i64 0, .int .i64 0, .int .i64 1, .bool false]) (by simp [results, Try.results58, go_sem]) rfl ⟨rfl, below_al (below_d0 w) _⟩

open Go.RowKit

theorem fields_st : (Try.prog.fieldsOf 23).toList = [⟨"Index", 3, 0, false, "", "", 0⟩, ⟨"Term", 3, 1, false, "", "", 8⟩, ⟨"Sum", 3, 2, false, "", "", 16⟩, ⟨"Level", 3, 3, false, "", "", 24⟩, ⟨"Final", 4, 4, false, "", "", 32⟩] := by kernel_rfl
/-- '==' of states. -/
theorem eql_st (s t : StP) (w : World) : (binOp .eql 23 (.agg #[.int .i64 s.ix, .int .i64 s.tm, .int .i64 s.sm, .int .i64 s.lv, .bool s.fn]) (.agg #[.int .i64 t.ix, .int .i64 t.tm, .int .i64 t.sm, .int .i64 t.lv, .bool t.fn])).run Try.prog w = .ok (.bool (decide (s = t))) w := by
  obtain ⟨a, b, c, d, e⟩ := s
  obtain ⟨a', b', c', d', e'⟩ := t
  rw [run_eql_struct, run_equalIn_agg w 9999 _ _ _ (by kernel_rfl) (by kernel_rfl), fields_st]
  by_cases h1 : a = a' <;> by_cases h2 : b = b' <;> by_cases h3 : c = c' <;> by_cases h4 : d = d' <;> by_cases h5 : e = e' <;> simp [Op.eqFields, part, go_sem, h1, h2, h3, h4, h5]

/-- Box z holds a state. -/
def BoxS (W : World) (z : Nat) (s : StP) : Prop := W.heap[z]? = some (.cells #[.int .i64 s.ix, .int .i64 s.tm, .int .i64 s.sm, .int .i64 s.lv, .bool s.fn] 23 (0, 0))
section
variable {W W' : World} {z : Nat} {s : StP} {e : EnP}
theorem BoxS.cells (h : BoxS W z s) : W.cell? ⟨z, 0, none⟩ = some (.int .i64 s.ix) ∧ W.cell? ⟨z, 1, none⟩ = some (.int .i64 s.tm) ∧ W.cell? ⟨z, 2, none⟩ = some (.int .i64 s.sm) ∧ W.cell? ⟨z, 3, none⟩ = some (.int .i64 s.lv) ∧ W.cell? ⟨z, 4, none⟩ = some (.bool s.fn) := by
  refine ⟨?_, ?_, ?_, ?_, ?_⟩ <;> (rw [cell_of_row _ _ _ _ _ _ h]; simp)
theorem BoxS.lt (h : BoxS W z s) : z < W.heap.size := (Array.getElem?_eq_some_iff.1 h).1
theorem BoxS.below (h : BoxS W z s) (hb : Below W.heap.size W W') : BoxS W' z s := (hb.block z h.lt).trans h
theorem BoxS.new (w : World) (s : StP) : BoxS (w.alloc (.cells #[.int .i64 s.ix, .int .i64 s.tm, .int .i64 s.sm, .int .i64 s.lv, .bool s.fn] 23)) w.heap.size s := World.alloc_heap_new w _
end

theorem fine_key0 {s : StP} (h : s.ix = 0) : fineB s = decide (s = firstP) := by
  rw [Bool.eq_iff_iff, fineB_iff, decide_eq_true_eq, fine_zero h]
theorem fine_key1 {s : StP} (h : s.ix ≠ 0) : fineB s = (inB s.ix 1 1073741824 && (inB s.tm 1 1073741824 && (inB s.sm 0 1073741824 && (inB s.lv 1 2 && (s.lv == 2 || !s.fn))))) := by
  rw [Bool.eq_iff_iff, fineB_iff, fine_pos h]
  simp [inB]

set_option maxRecDepth 100000 in
set_option maxHeartbeats 1000000 in
theorem fine_any (s : StP) (w : World) : Calls Try.prog 66 #[s.v] w fun r w' => r = .returned (.bool (fineB s)) ∧ Below w.heap.size w w' := by
  by_cases h0 : s.ix = 0
  · have Hk := Lib.hid (fine_key0 h0)
    have q1 := fun w => eql_st s firstP w
    unfold firstP at q1
    have b0 : (s.ix == 0) = true := by simpa using h0
    clear h0
    unfold StP.v
    go_enter Try.func66, Try.ntmps66
    go_wp2_with fail
    obtain ⟨z, hz⟩ : ∃ z, z = w.heap.size := ⟨_, rfl⟩
    obtain ⟨w0, hw0⟩ : ∃ x, x = w.alloc (.cells #[.int .i64 s.ix, .int .i64 s.tm, .int .i64 s.sm, .int .i64 s.lv, .bool s.fn] 23) := ⟨_, rfl⟩
    have x0 : BoxS w0 z s := by rw [hw0, hz]; exact BoxS.new w s
    have hB := Lib.hid (show Below w.heap.size w w0 by rw [hw0]; exact below_al (below_d0 w) _)
    rw [← hw0, ← hz]
    have X0 := Lib.hid (show ∀ W, Below w0.heap.size w0 W → BoxS W z s from fun W hW => x0.below hW)
    clear hw0 hz x0
    refine wp_region_held_drew (S := (fun W => Below w0.heap.size w0 W)) (by kernel_rfl) (below_dr (below_d0 _)) (fun hHeld => ?_)
    refine take_at (i := 0) (d := 6) (oi := ?o1) (v := ?v1) ?hi1 ?hd1 (by kernel_rfl) (by kernel_rfl) (by kernel_rfl) ?hw1 ?hy1 ?hq1 (by assumption) ?r1
    case hi1 => (simp only [List.getElem?_toArray, List.getElem?_cons_zero]; rfl)
    case hd1 => rfl
    case hw1 => rfl
    case hy1 => ((intro w hSw; (try dsimp only at hSw); obtain ⟨k0, k1, k2, k3, k4⟩ := (X0.out _ hSw).cells; go_simp) <;> (with_reducible rfl))
    case hq1 => exact fun _ _ _ h => h
    simp only [List.set_cons_succ, List.set_cons_zero]
    refine call_at (i := 1) (d := 7) (oi := ?o2) (f := ?f2) (args := ?a2) ?hi2 ?hd2 (by kernel_rfl) ?hw2 ?he2 ?hc2
    case hi2 => (simp only [List.getElem?_toArray, List.getElem?_cons_succ, List.getElem?_cons_zero]; rfl)
    case hd2 => rfl
    case hw2 => rfl
    case he2 => (go_simp; constructor <;> with_reducible rfl)
    refine Calls.mono (first_any _) ?_
    rintro e w1 ⟨rfl, hb1⟩
    have kb : Below w0.heap.size w0 w1 := hHeld.trans (hb1.mono hHeld.size)
    unfold firstP StP.v
    dsimp only
    refine ⟨_, rfl, kb, fun hHeld => ?_⟩
    simp only [List.set_cons_succ, List.set_cons_zero]
    refine take_at (i := 2) (d := 8) (oi := ?o3) (v := ?v3) ?hi3 ?hd3 (by kernel_rfl) (by kernel_rfl) (by kernel_rfl) ?hw3 ?hy3 ?hq3 (by assumption) ?r3
    case hi3 => (simp only [List.getElem?_toArray, List.getElem?_cons_succ, List.getElem?_cons_zero]; rfl)
    case hd3 => rfl
    case hw3 => rfl
    case hy3 => ((intro w hSw; (try dsimp only at hSw); go_simp) <;> (with_reducible rfl))
    case hq3 => exact fun _ _ _ h => h
    simp only [List.set_cons_succ, List.set_cons_zero]
    refine take_at (i := 3) (d := 2) (oi := ?o4) (v := ?v4) ?hi4 ?hd4 (by kernel_rfl) (by kernel_rfl) (by kernel_rfl) ?hw4 ?hy4 ?hq4 (by assumption) ?r4
    case hi4 => (simp only [List.getElem?_toArray, List.getElem?_cons_succ, List.getElem?_cons_zero]; rfl)
    case hd4 => rfl
    case hw4 => rfl
    case hy4 => ((intro w hSw; (try dsimp only at hSw); go_simp) <;> (with_reducible rfl))
    case hq4 => exact fun _ _ _ h => h
    simp only [List.set_cons_succ, List.set_cons_zero]
    refine wpAnyH_done (by kernel_rfl) ?_ _
    go_wp2_with fail
    go_ret
    exact ⟨ret_bool Hk.out.symm, hB.out.trans (hHeld.mono hB.out.size)⟩
  · have Hk := Lib.hid (fine_key1 h0)
    have b0 : (s.ix == 0) = false := by simpa using h0
    clear h0
    unfold StP.v
    cases h1 : inB s.ix 1 1073741824 with
    | false =>
      go_enter Try.func66, Try.ntmps66
      go_wp2_with (go_at_call 71; refine (within_any _ _ _ _).mono ?_; rintro e w' ⟨rfl, rfl⟩)
      go_ret
      exact ⟨ret_bool (by rw [Hk.out]; simp [h1]), below_al (below_d0 w) _⟩
    | true =>
      cases h2 : inB s.tm 1 1073741824 with
      | false =>
        go_enter Try.func66, Try.ntmps66
        go_wp2_with (go_at_call 71; refine (within_any _ _ _ _).mono ?_; rintro e w' ⟨rfl, rfl⟩)
        go_ret
        exact ⟨ret_bool (by rw [Hk.out]; simp [h1, h2]), below_al (below_d0 w) _⟩
      | true =>
        cases h3 : inB s.sm 0 1073741824 with
        | false =>
          go_enter Try.func66, Try.ntmps66
          go_wp2_with (go_at_call 71; refine (within_any _ _ _ _).mono ?_; rintro e w' ⟨rfl, rfl⟩)
          go_ret
          exact ⟨ret_bool (by rw [Hk.out]; simp [h1, h2, h3]), below_al (below_d0 w) _⟩
        | true =>
          cases h4 : inB s.lv 1 2 with
          | false =>
            go_enter Try.func66, Try.ntmps66
            go_wp2_with (go_at_call 71; refine (within_any _ _ _ _).mono ?_; rintro e w' ⟨rfl, rfl⟩)
            go_ret
            exact ⟨ret_bool (by rw [Hk.out]; simp [h1, h2, h3, h4]), below_al (below_d0 w) _⟩
          | true =>
            cases h5 : (s.lv == 2) with
            | false =>
              cases h6 : s.fn with
              | false =>
                go_enter Try.func66, Try.ntmps66
                go_wp2_with (go_at_call 71; refine (within_any _ _ _ _).mono ?_; rintro e w' ⟨rfl, rfl⟩)
                go_ret
                exact ⟨ret_bool (by rw [Hk.out]; simp [h1, h2, h3, h4, h5, h6]), below_al (below_d0 w) _⟩
              | true =>
                go_enter Try.func66, Try.ntmps66
                go_wp2_with (go_at_call 71; refine (within_any _ _ _ _).mono ?_; rintro e w' ⟨rfl, rfl⟩)
                go_ret
                exact ⟨ret_bool (by rw [Hk.out]; simp [h1, h2, h3, h4, h5, h6]), below_al (below_d0 w) _⟩
            | true =>
              go_enter Try.func66, Try.ntmps66
              go_wp2_with (go_at_call 71; refine (within_any _ _ _ _).mono ?_; rintro e w' ⟨rfl, rfl⟩)
              go_ret
              exact ⟨ret_bool (by rw [Hk.out]; simp [h1, h2, h3, h4, h5]), below_al (below_d0 w) _⟩
theorem rfine_key (s : StP) : fineB s = (inB s.ix 0 1073741824 && (inB s.tm 0 1073741824 && (inB s.sm 0 1073741824 && (!((s.tm == 0) != (s.ix == 0)) && (!(s.lv != 1 && s.lv != 2) && (!(s.fn && s.lv != 2) && (decide (0 < s.ix) || decide (s = firstP)))))))) := by
  rw [Bool.eq_iff_iff, fineB_iff]
  unfold FineP
  simp only [Bool.and_eq_true, Bool.or_eq_true, decide_eq_true_eq, inB_iff, Bool.not_eq_true', bne_eq_false_iff_eq, Bool.and_eq_false_iff]
  constructor
  · rintro ⟨a, b, c, d, e, f, g⟩
    refine ⟨a, b, c, ?_, by omega, ?_, ?_⟩
    · rw [Bool.eq_iff_iff, beq_iff_eq, beq_iff_eq]; exact d
    · cases hf : s.fn
      · exact .inl rfl
      · exact .inr (f hf)
    · by_cases h0 : s.ix = 0
      · exact .inr (g h0)
      · exact .inl (by omega)
  · rintro ⟨a, b, c, d, e, f, g⟩
    refine ⟨a, b, c, ?_, by omega, ?_, ?_⟩
    · rw [Bool.eq_iff_iff, beq_iff_eq, beq_iff_eq] at d; exact d
    · rcases f with f | f
      · intro h; rw [f] at h; cases h
      · exact fun _ => f
    · rcases g with g | g
      · intro h; omega
      · exact fun _ => g

set_option maxRecDepth 100000 in
set_option maxHeartbeats 4000000 in
theorem rfine_any (s : StP) (w : World) : Calls Try.prog 37 #[s.v] w fun r w' => r = .returned (.bool (fineB s)) ∧ Below w.heap.size w w' := by
  have Hk := Lib.hid (rfine_key s)
  have q1 := fun w => eql_st s firstP w
  unfold firstP at q1
  unfold StP.v
  cases h1 : inB s.ix 0 1073741824 with
  | false =>
    go_enter Try.func37, Try.ntmps37
    go_wp2_with (go_at_call 61; refine (number_any _ _).mono ?_; rintro e w' ⟨rfl, rfl⟩)
    go_ret
    exact ⟨ret_bool (by rw [Hk.out]; simp only [h1]; rfl), below_al (below_d0 w) _⟩
  | true =>
    cases h2 : inB s.tm 0 1073741824 with
    | false =>
      go_enter Try.func37, Try.ntmps37
      go_wp2_with (go_at_call 61; refine (number_any _ _).mono ?_; rintro e w' ⟨rfl, rfl⟩)
      go_ret
      exact ⟨ret_bool (by rw [Hk.out]; simp only [h1, h2]; rfl), below_al (below_d0 w) _⟩
    | true =>
      cases h3 : inB s.sm 0 1073741824 with
      | false =>
        go_enter Try.func37, Try.ntmps37
        go_wp2_with (go_at_call 61; refine (number_any _ _).mono ?_; rintro e w' ⟨rfl, rfl⟩)
        go_ret
        exact ⟨ret_bool (by rw [Hk.out]; simp only [h1, h2, h3]; rfl), below_al (below_d0 w) _⟩
      | true =>
        cases h4 : (s.tm == 0) with
        | false =>
          cases h5 : (s.ix == 0) with
          | false =>
            cases h6 : (s.lv != 1) with
            | false =>
              cases h7 : (s.lv != 2) with
              | false =>
                cases h8 : s.fn with
                | false =>
                  cases h9 : decide (0 < s.ix) with
                  | false =>
                    go_enter Try.func37, Try.ntmps37
                    go_wp2_with (go_at_call 61; refine (number_any _ _).mono ?_; rintro e w' ⟨rfl, rfl⟩)
                    obtain ⟨z, hz⟩ : ∃ z, z = w.heap.size := ⟨_, rfl⟩
                    rw [← hz]
                    generalize hw0 : w.alloc _ = w0
                    have x0 : BoxS w0 z s := by rw [← hw0, hz]; first | exact BoxS.new w s | (have h := BoxS.new w s; rw [h8] at h; exact h)
                    have hB := Lib.hid (show Below w.heap.size w w0 by rw [← hw0]; exact below_al (below_d0 w) _)
                    have X0 := Lib.hid (show ∀ W, Below w0.heap.size w0 W → BoxS W z s from fun W hW => x0.below hW)
                    clear hw0 hz x0
                    have Hh1 := Lib.hid h1
                    have Hh2 := Lib.hid h2
                    have Hh3 := Lib.hid h3
                    have Hh4 := Lib.hid h4
                    have Hh5 := Lib.hid h5
                    have Hh6 := Lib.hid h6
                    have Hh7 := Lib.hid h7
                    have Hh8 := Lib.hid h8
                    clear h1 h2 h3 h4 h5 h6 h7 h8
                    refine wp_region_held_drew (S := (fun W => Below w0.heap.size w0 W)) (by kernel_rfl) (below_dr (below_d0 _)) (fun hHeld => ?_)
                    refine take_at (i := 0) (d := 47) (oi := ?o5) (v := ?v5) ?hi5 ?hd5 (by kernel_rfl) (by kernel_rfl) (by kernel_rfl) ?hw5 ?hy5 ?hq5 (by assumption) ?r5
                    case hi5 => (simp only [List.getElem?_toArray, List.getElem?_cons_zero]; rfl)
                    case hd5 => rfl
                    case hw5 => rfl
                    case hy5 => ((intro w hSw; (try dsimp only at hSw); go_simp) <;> (with_reducible rfl))
                    case hq5 => exact fun _ _ _ h => h
                    simp only [List.set_cons_succ, List.set_cons_zero]
                    refine take_at (i := 1) (d := 48) (oi := ?o6) (v := ?v6) ?hi6 ?hd6 (by kernel_rfl) (by kernel_rfl) (by kernel_rfl) ?hw6 ?hy6 ?hq6 (by assumption) ?r6
                    case hi6 => (simp only [List.getElem?_toArray, List.getElem?_cons_succ, List.getElem?_cons_zero]; rfl)
                    case hd6 => rfl
                    case hw6 => rfl
                    case hy6 => ((intro w hSw; (try dsimp only at hSw); obtain ⟨k0, k1, k2, k3, k4⟩ := (X0.out _ hSw).cells; go_simp) <;> (with_reducible rfl))
                    case hq6 => exact fun _ _ _ h => h
                    simp only [List.set_cons_succ, List.set_cons_zero]
                    refine take_at (i := 2) (d := 49) (oi := ?o7) (v := ?v7) ?hi7 ?hd7 (by kernel_rfl) (by kernel_rfl) (by kernel_rfl) ?hw7 ?hy7 ?hq7 (by assumption) ?r7
                    case hi7 => (simp only [List.getElem?_toArray, List.getElem?_cons_succ, List.getElem?_cons_zero]; rfl)
                    case hd7 => rfl
                    case hw7 => rfl
                    case hy7 => ((intro w hSw; (try dsimp only at hSw); go_simp) <;> (with_reducible rfl))
                    case hq7 => exact fun _ _ _ h => h
                    simp only [List.set_cons_succ, List.set_cons_zero]
                    refine take_at (i := 3) (d := 50) (oi := ?o8) (v := ?v8) ?hi8 ?hd8 (by kernel_rfl) (by kernel_rfl) (by kernel_rfl) ?hw8 ?hy8 ?hq8 (by assumption) ?r8
                    case hi8 => (simp only [List.getElem?_toArray, List.getElem?_cons_succ, List.getElem?_cons_zero]; rfl)
                    case hd8 => rfl
                    case hw8 => rfl
                    case hy8 => ((intro w hSw; (try dsimp only at hSw); go_simp) <;> (with_reducible rfl))
                    case hq8 => exact fun _ _ _ h => h
                    simp only [List.set_cons_succ, List.set_cons_zero]
                    refine take_at (i := 4) (d := 51) (oi := ?o9) (v := ?v9) ?hi9 ?hd9 (by kernel_rfl) (by kernel_rfl) (by kernel_rfl) ?hw9 ?hy9 ?hq9 (by assumption) ?r9
                    case hi9 => (simp only [List.getElem?_toArray, List.getElem?_cons_succ, List.getElem?_cons_zero]; rfl)
                    case hd9 => rfl
                    case hw9 => rfl
                    case hy9 => ((intro w hSw; (try dsimp only at hSw); obtain ⟨k0, k1, k2, k3, k4⟩ := (X0.out _ hSw).cells; go_simp) <;> (with_reducible rfl))
                    case hq9 => exact fun _ _ _ h => h
                    simp only [List.set_cons_succ, List.set_cons_zero]
                    refine call_at (i := 5) (d := 52) (oi := ?o10) (f := ?f10) (args := ?a10) ?hi10 ?hd10 (by kernel_rfl) ?hw10 ?he10 ?hc10
                    case hi10 => (simp only [List.getElem?_toArray, List.getElem?_cons_succ, List.getElem?_cons_zero]; rfl)
                    case hd10 => rfl
                    case hw10 => rfl
                    case he10 => (go_simp; constructor <;> with_reducible rfl)
                    refine Calls.mono (rfirst_any _) ?_
                    rintro e w1 ⟨rfl, hb1⟩
                    have kb : Below w0.heap.size w0 w1 := hHeld.trans (hb1.mono hHeld.size)
                    unfold firstP StP.v
                    dsimp only
                    refine ⟨_, rfl, kb, fun hHeld => ?_⟩
                    simp only [List.set_cons_succ, List.set_cons_zero]
                    refine take_at (i := 6) (d := 53) (oi := ?o11) (v := ?v11) ?hi11 ?hd11 (by kernel_rfl) (by kernel_rfl) (by kernel_rfl) ?hw11 ?hy11 ?hq11 (by assumption) ?r11
                    case hi11 => (simp only [List.getElem?_toArray, List.getElem?_cons_succ, List.getElem?_cons_zero]; rfl)
                    case hd11 => rfl
                    case hw11 => rfl
                    case hy11 => ((intro w hSw; (try dsimp only at hSw); go_simp) <;> (with_reducible rfl))
                    case hq11 => exact fun _ _ _ h => h
                    simp only [List.set_cons_succ, List.set_cons_zero]
                    refine take_at (i := 7) (d := 54) (oi := ?o12) (v := ?v12) ?hi12 ?hd12 (by kernel_rfl) (by kernel_rfl) (by kernel_rfl) ?hw12 ?hy12 ?hq12 (by assumption) ?r12
                    case hi12 => (simp only [List.getElem?_toArray, List.getElem?_cons_succ, List.getElem?_cons_zero]; rfl)
                    case hd12 => rfl
                    case hw12 => rfl
                    case hy12 => ((intro w hSw; (try dsimp only at hSw); go_simp) <;> (with_reducible rfl))
                    case hq12 => exact fun _ _ _ h => h
                    simp only [List.set_cons_succ, List.set_cons_zero]
                    refine take_at (i := 8) (d := 2) (oi := ?o13) (v := ?v13) ?hi13 ?hd13 (by kernel_rfl) (by kernel_rfl) (by kernel_rfl) ?hw13 ?hy13 ?hq13 (by assumption) ?r13
                    case hi13 => (simp only [List.getElem?_toArray, List.getElem?_cons_succ, List.getElem?_cons_zero]; rfl)
                    case hd13 => rfl
                    case hw13 => rfl
                    case hy13 => ((intro w hSw; (try dsimp only at hSw); go_simp) <;> (with_reducible rfl))
                    case hq13 => exact fun _ _ _ h => h
                    simp only [List.set_cons_succ, List.set_cons_zero]
                    refine wpAnyH_done (by kernel_rfl) ?_ _
                    go_wp2_with fail
                    go_ret
                    exact ⟨ret_bool (by rw [Hk.out]; simp only [Hh1.out, Hh2.out, Hh3.out, Hh4.out, Hh5.out, Hh6.out, Hh7.out, Hh8.out, h9]; rfl), hB.out.trans (hHeld.mono hB.out.size)⟩
                  | true =>
                    go_enter Try.func37, Try.ntmps37
                    go_wp2_with (go_at_call 61; refine (number_any _ _).mono ?_; rintro e w' ⟨rfl, rfl⟩)
                    obtain ⟨z, hz⟩ : ∃ z, z = w.heap.size := ⟨_, rfl⟩
                    rw [← hz]
                    generalize hw0 : w.alloc _ = w0
                    have x0 : BoxS w0 z s := by rw [← hw0, hz]; first | exact BoxS.new w s | (have h := BoxS.new w s; rw [h8] at h; exact h)
                    have hB := Lib.hid (show Below w.heap.size w w0 by rw [← hw0]; exact below_al (below_d0 w) _)
                    have X0 := Lib.hid (show ∀ W, Below w0.heap.size w0 W → BoxS W z s from fun W hW => x0.below hW)
                    clear hw0 hz x0
                    have Hh1 := Lib.hid h1
                    have Hh2 := Lib.hid h2
                    have Hh3 := Lib.hid h3
                    have Hh4 := Lib.hid h4
                    have Hh5 := Lib.hid h5
                    have Hh6 := Lib.hid h6
                    have Hh7 := Lib.hid h7
                    have Hh8 := Lib.hid h8
                    clear h1 h2 h3 h4 h5 h6 h7 h8
                    refine wp_region_held_drew (S := (fun W => Below w0.heap.size w0 W)) (by kernel_rfl) (below_dr (below_d0 _)) (fun hHeld => ?_)
                    refine take_at (i := 0) (d := 47) (oi := ?o14) (v := ?v14) ?hi14 ?hd14 (by kernel_rfl) (by kernel_rfl) (by kernel_rfl) ?hw14 ?hy14 ?hq14 (by assumption) ?r14
                    case hi14 => (simp only [List.getElem?_toArray, List.getElem?_cons_zero]; rfl)
                    case hd14 => rfl
                    case hw14 => rfl
                    case hy14 => ((intro w hSw; (try dsimp only at hSw); go_simp) <;> (with_reducible rfl))
                    case hq14 => exact fun _ _ _ h => h
                    simp only [List.set_cons_succ, List.set_cons_zero]
                    refine take_at (i := 1) (d := 48) (oi := ?o15) (v := ?v15) ?hi15 ?hd15 (by kernel_rfl) (by kernel_rfl) (by kernel_rfl) ?hw15 ?hy15 ?hq15 (by assumption) ?r15
                    case hi15 => (simp only [List.getElem?_toArray, List.getElem?_cons_succ, List.getElem?_cons_zero]; rfl)
                    case hd15 => rfl
                    case hw15 => rfl
                    case hy15 => ((intro w hSw; (try dsimp only at hSw); obtain ⟨k0, k1, k2, k3, k4⟩ := (X0.out _ hSw).cells; go_simp) <;> (with_reducible rfl))
                    case hq15 => exact fun _ _ _ h => h
                    simp only [List.set_cons_succ, List.set_cons_zero]
                    refine take_at (i := 2) (d := 49) (oi := ?o16) (v := ?v16) ?hi16 ?hd16 (by kernel_rfl) (by kernel_rfl) (by kernel_rfl) ?hw16 ?hy16 ?hq16 (by assumption) ?r16
                    case hi16 => (simp only [List.getElem?_toArray, List.getElem?_cons_succ, List.getElem?_cons_zero]; rfl)
                    case hd16 => rfl
                    case hw16 => rfl
                    case hy16 => ((intro w hSw; (try dsimp only at hSw); go_simp) <;> (with_reducible rfl))
                    case hq16 => exact fun _ _ _ h => h
                    simp only [List.set_cons_succ, List.set_cons_zero]
                    refine take_at (i := 3) (d := 50) (oi := ?o17) (v := ?v17) ?hi17 ?hd17 (by kernel_rfl) (by kernel_rfl) (by kernel_rfl) ?hw17 ?hy17 ?hq17 (by assumption) ?r17
                    case hi17 => (simp only [List.getElem?_toArray, List.getElem?_cons_succ, List.getElem?_cons_zero]; rfl)
                    case hd17 => rfl
                    case hw17 => rfl
                    case hy17 => ((intro w hSw; (try dsimp only at hSw); go_simp) <;> (with_reducible rfl))
                    case hq17 => exact fun _ _ _ h => h
                    simp only [List.set_cons_succ, List.set_cons_zero]
                    refine skip_at (i := 4) (d := 51) (oi := ?o18) ?hi18 ?hd18 (by kernel_rfl) (by kernel_rfl) (by kernel_rfl) ?hw18 ?hq18 (by assumption) ?r18
                    case hi18 => (simp only [List.getElem?_toArray, List.getElem?_cons_succ, List.getElem?_cons_zero]; rfl)
                    case hd18 => rfl
                    case hw18 => rfl
                    case hq18 => exact fun _ _ _ h => h
                    simp only [List.set_cons_succ, List.set_cons_zero]
                    refine skip_at (i := 5) (d := 52) (oi := ?o19) ?hi19 ?hd19 (by kernel_rfl) (by kernel_rfl) (by kernel_rfl) ?hw19 ?hq19 (by assumption) ?r19
                    case hi19 => (simp only [List.getElem?_toArray, List.getElem?_cons_succ, List.getElem?_cons_zero]; rfl)
                    case hd19 => rfl
                    case hw19 => rfl
                    case hq19 => exact fun _ _ _ h => h
                    simp only [List.set_cons_succ, List.set_cons_zero]
                    refine skip_at (i := 6) (d := 53) (oi := ?o20) ?hi20 ?hd20 (by kernel_rfl) (by kernel_rfl) (by kernel_rfl) ?hw20 ?hq20 (by assumption) ?r20
                    case hi20 => (simp only [List.getElem?_toArray, List.getElem?_cons_succ, List.getElem?_cons_zero]; rfl)
                    case hd20 => rfl
                    case hw20 => rfl
                    case hq20 => exact fun _ _ _ h => h
                    simp only [List.set_cons_succ, List.set_cons_zero]
                    refine take_at (i := 7) (d := 54) (oi := ?o21) (v := ?v21) ?hi21 ?hd21 (by kernel_rfl) (by kernel_rfl) (by kernel_rfl) ?hw21 ?hy21 ?hq21 (by assumption) ?r21
                    case hi21 => (simp only [List.getElem?_toArray, List.getElem?_cons_succ, List.getElem?_cons_zero]; rfl)
                    case hd21 => rfl
                    case hw21 => rfl
                    case hy21 => ((intro w hSw; (try dsimp only at hSw); go_simp) <;> (with_reducible rfl))
                    case hq21 => exact fun _ _ _ h => h
                    simp only [List.set_cons_succ, List.set_cons_zero]
                    refine take_at (i := 8) (d := 2) (oi := ?o22) (v := ?v22) ?hi22 ?hd22 (by kernel_rfl) (by kernel_rfl) (by kernel_rfl) ?hw22 ?hy22 ?hq22 (by assumption) ?r22
                    case hi22 => (simp only [List.getElem?_toArray, List.getElem?_cons_succ, List.getElem?_cons_zero]; rfl)
                    case hd22 => rfl
                    case hw22 => rfl
                    case hy22 => ((intro w hSw; (try dsimp only at hSw); go_simp) <;> (with_reducible rfl))
                    case hq22 => exact fun _ _ _ h => h
                    simp only [List.set_cons_succ, List.set_cons_zero]
                    refine wpAnyH_done (by kernel_rfl) ?_ _
                    go_wp2_with fail
                    go_ret
                    exact ⟨ret_bool (by rw [Hk.out]; simp only [Hh1.out, Hh2.out, Hh3.out, Hh4.out, Hh5.out, Hh6.out, Hh7.out, Hh8.out, h9]; rfl), hB.out.trans (hHeld.mono hB.out.size)⟩
                | true =>
                  cases h9 : decide (0 < s.ix) with
                  | false =>
                    go_enter Try.func37, Try.ntmps37
                    go_wp2_with (go_at_call 61; refine (number_any _ _).mono ?_; rintro e w' ⟨rfl, rfl⟩)
                    obtain ⟨z, hz⟩ : ∃ z, z = w.heap.size := ⟨_, rfl⟩
                    rw [← hz]
                    generalize hw0 : w.alloc _ = w0
                    have x0 : BoxS w0 z s := by rw [← hw0, hz]; first | exact BoxS.new w s | (have h := BoxS.new w s; rw [h8] at h; exact h)
                    have hB := Lib.hid (show Below w.heap.size w w0 by rw [← hw0]; exact below_al (below_d0 w) _)
                    have X0 := Lib.hid (show ∀ W, Below w0.heap.size w0 W → BoxS W z s from fun W hW => x0.below hW)
                    clear hw0 hz x0
                    have Hh1 := Lib.hid h1
                    have Hh2 := Lib.hid h2
                    have Hh3 := Lib.hid h3
                    have Hh4 := Lib.hid h4
                    have Hh5 := Lib.hid h5
                    have Hh6 := Lib.hid h6
                    have Hh7 := Lib.hid h7
                    have Hh8 := Lib.hid h8
                    clear h1 h2 h3 h4 h5 h6 h7 h8
                    refine wp_region_held_drew (S := (fun W => Below w0.heap.size w0 W)) (by kernel_rfl) (below_dr (below_d0 _)) (fun hHeld => ?_)
                    refine take_at (i := 0) (d := 47) (oi := ?o23) (v := ?v23) ?hi23 ?hd23 (by kernel_rfl) (by kernel_rfl) (by kernel_rfl) ?hw23 ?hy23 ?hq23 (by assumption) ?r23
                    case hi23 => (simp only [List.getElem?_toArray, List.getElem?_cons_zero]; rfl)
                    case hd23 => rfl
                    case hw23 => rfl
                    case hy23 => ((intro w hSw; (try dsimp only at hSw); go_simp) <;> (with_reducible rfl))
                    case hq23 => exact fun _ _ _ h => h
                    simp only [List.set_cons_succ, List.set_cons_zero]
                    refine take_at (i := 1) (d := 48) (oi := ?o24) (v := ?v24) ?hi24 ?hd24 (by kernel_rfl) (by kernel_rfl) (by kernel_rfl) ?hw24 ?hy24 ?hq24 (by assumption) ?r24
                    case hi24 => (simp only [List.getElem?_toArray, List.getElem?_cons_succ, List.getElem?_cons_zero]; rfl)
                    case hd24 => rfl
                    case hw24 => rfl
                    case hy24 => ((intro w hSw; (try dsimp only at hSw); obtain ⟨k0, k1, k2, k3, k4⟩ := (X0.out _ hSw).cells; go_simp) <;> (with_reducible rfl))
                    case hq24 => exact fun _ _ _ h => h
                    simp only [List.set_cons_succ, List.set_cons_zero]
                    refine take_at (i := 2) (d := 49) (oi := ?o25) (v := ?v25) ?hi25 ?hd25 (by kernel_rfl) (by kernel_rfl) (by kernel_rfl) ?hw25 ?hy25 ?hq25 (by assumption) ?r25
                    case hi25 => (simp only [List.getElem?_toArray, List.getElem?_cons_succ, List.getElem?_cons_zero]; rfl)
                    case hd25 => rfl
                    case hw25 => rfl
                    case hy25 => ((intro w hSw; (try dsimp only at hSw); go_simp) <;> (with_reducible rfl))
                    case hq25 => exact fun _ _ _ h => h
                    simp only [List.set_cons_succ, List.set_cons_zero]
                    refine take_at (i := 3) (d := 50) (oi := ?o26) (v := ?v26) ?hi26 ?hd26 (by kernel_rfl) (by kernel_rfl) (by kernel_rfl) ?hw26 ?hy26 ?hq26 (by assumption) ?r26
                    case hi26 => (simp only [List.getElem?_toArray, List.getElem?_cons_succ, List.getElem?_cons_zero]; rfl)
                    case hd26 => rfl
                    case hw26 => rfl
                    case hy26 => ((intro w hSw; (try dsimp only at hSw); go_simp) <;> (with_reducible rfl))
                    case hq26 => exact fun _ _ _ h => h
                    simp only [List.set_cons_succ, List.set_cons_zero]
                    refine take_at (i := 4) (d := 51) (oi := ?o27) (v := ?v27) ?hi27 ?hd27 (by kernel_rfl) (by kernel_rfl) (by kernel_rfl) ?hw27 ?hy27 ?hq27 (by assumption) ?r27
                    case hi27 => (simp only [List.getElem?_toArray, List.getElem?_cons_succ, List.getElem?_cons_zero]; rfl)
                    case hd27 => rfl
                    case hw27 => rfl
                    case hy27 => ((intro w hSw; (try dsimp only at hSw); obtain ⟨k0, k1, k2, k3, k4⟩ := (X0.out _ hSw).cells; go_simp) <;> (with_reducible rfl))
                    case hq27 => exact fun _ _ _ h => h
                    simp only [List.set_cons_succ, List.set_cons_zero]
                    refine call_at (i := 5) (d := 52) (oi := ?o28) (f := ?f28) (args := ?a28) ?hi28 ?hd28 (by kernel_rfl) ?hw28 ?he28 ?hc28
                    case hi28 => (simp only [List.getElem?_toArray, List.getElem?_cons_succ, List.getElem?_cons_zero]; rfl)
                    case hd28 => rfl
                    case hw28 => rfl
                    case he28 => (go_simp; constructor <;> with_reducible rfl)
                    refine Calls.mono (rfirst_any _) ?_
                    rintro e w1 ⟨rfl, hb1⟩
                    have kb : Below w0.heap.size w0 w1 := hHeld.trans (hb1.mono hHeld.size)
                    unfold firstP StP.v
                    dsimp only
                    refine ⟨_, rfl, kb, fun hHeld => ?_⟩
                    simp only [List.set_cons_succ, List.set_cons_zero]
                    refine take_at (i := 6) (d := 53) (oi := ?o29) (v := ?v29) ?hi29 ?hd29 (by kernel_rfl) (by kernel_rfl) (by kernel_rfl) ?hw29 ?hy29 ?hq29 (by assumption) ?r29
                    case hi29 => (simp only [List.getElem?_toArray, List.getElem?_cons_succ, List.getElem?_cons_zero]; rfl)
                    case hd29 => rfl
                    case hw29 => rfl
                    case hy29 => ((intro w hSw; (try dsimp only at hSw); go_simp) <;> (with_reducible rfl))
                    case hq29 => exact fun _ _ _ h => h
                    simp only [List.set_cons_succ, List.set_cons_zero]
                    refine take_at (i := 7) (d := 54) (oi := ?o30) (v := ?v30) ?hi30 ?hd30 (by kernel_rfl) (by kernel_rfl) (by kernel_rfl) ?hw30 ?hy30 ?hq30 (by assumption) ?r30
                    case hi30 => (simp only [List.getElem?_toArray, List.getElem?_cons_succ, List.getElem?_cons_zero]; rfl)
                    case hd30 => rfl
                    case hw30 => rfl
                    case hy30 => ((intro w hSw; (try dsimp only at hSw); go_simp) <;> (with_reducible rfl))
                    case hq30 => exact fun _ _ _ h => h
                    simp only [List.set_cons_succ, List.set_cons_zero]
                    refine take_at (i := 8) (d := 2) (oi := ?o31) (v := ?v31) ?hi31 ?hd31 (by kernel_rfl) (by kernel_rfl) (by kernel_rfl) ?hw31 ?hy31 ?hq31 (by assumption) ?r31
                    case hi31 => (simp only [List.getElem?_toArray, List.getElem?_cons_succ, List.getElem?_cons_zero]; rfl)
                    case hd31 => rfl
                    case hw31 => rfl
                    case hy31 => ((intro w hSw; (try dsimp only at hSw); go_simp) <;> (with_reducible rfl))
                    case hq31 => exact fun _ _ _ h => h
                    simp only [List.set_cons_succ, List.set_cons_zero]
                    refine wpAnyH_done (by kernel_rfl) ?_ _
                    go_wp2_with fail
                    go_ret
                    exact ⟨ret_bool (by rw [Hk.out]; simp only [Hh1.out, Hh2.out, Hh3.out, Hh4.out, Hh5.out, Hh6.out, Hh7.out, Hh8.out, h9]; rfl), hB.out.trans (hHeld.mono hB.out.size)⟩
                  | true =>
                    go_enter Try.func37, Try.ntmps37
                    go_wp2_with (go_at_call 61; refine (number_any _ _).mono ?_; rintro e w' ⟨rfl, rfl⟩)
                    obtain ⟨z, hz⟩ : ∃ z, z = w.heap.size := ⟨_, rfl⟩
                    rw [← hz]
                    generalize hw0 : w.alloc _ = w0
                    have x0 : BoxS w0 z s := by rw [← hw0, hz]; first | exact BoxS.new w s | (have h := BoxS.new w s; rw [h8] at h; exact h)
                    have hB := Lib.hid (show Below w.heap.size w w0 by rw [← hw0]; exact below_al (below_d0 w) _)
                    have X0 := Lib.hid (show ∀ W, Below w0.heap.size w0 W → BoxS W z s from fun W hW => x0.below hW)
                    clear hw0 hz x0
                    have Hh1 := Lib.hid h1
                    have Hh2 := Lib.hid h2
                    have Hh3 := Lib.hid h3
                    have Hh4 := Lib.hid h4
                    have Hh5 := Lib.hid h5
                    have Hh6 := Lib.hid h6
                    have Hh7 := Lib.hid h7
                    have Hh8 := Lib.hid h8
                    clear h1 h2 h3 h4 h5 h6 h7 h8
                    refine wp_region_held_drew (S := (fun W => Below w0.heap.size w0 W)) (by kernel_rfl) (below_dr (below_d0 _)) (fun hHeld => ?_)
                    refine take_at (i := 0) (d := 47) (oi := ?o32) (v := ?v32) ?hi32 ?hd32 (by kernel_rfl) (by kernel_rfl) (by kernel_rfl) ?hw32 ?hy32 ?hq32 (by assumption) ?r32
                    case hi32 => (simp only [List.getElem?_toArray, List.getElem?_cons_zero]; rfl)
                    case hd32 => rfl
                    case hw32 => rfl
                    case hy32 => ((intro w hSw; (try dsimp only at hSw); go_simp) <;> (with_reducible rfl))
                    case hq32 => exact fun _ _ _ h => h
                    simp only [List.set_cons_succ, List.set_cons_zero]
                    refine take_at (i := 1) (d := 48) (oi := ?o33) (v := ?v33) ?hi33 ?hd33 (by kernel_rfl) (by kernel_rfl) (by kernel_rfl) ?hw33 ?hy33 ?hq33 (by assumption) ?r33
                    case hi33 => (simp only [List.getElem?_toArray, List.getElem?_cons_succ, List.getElem?_cons_zero]; rfl)
                    case hd33 => rfl
                    case hw33 => rfl
                    case hy33 => ((intro w hSw; (try dsimp only at hSw); obtain ⟨k0, k1, k2, k3, k4⟩ := (X0.out _ hSw).cells; go_simp) <;> (with_reducible rfl))
                    case hq33 => exact fun _ _ _ h => h
                    simp only [List.set_cons_succ, List.set_cons_zero]
                    refine take_at (i := 2) (d := 49) (oi := ?o34) (v := ?v34) ?hi34 ?hd34 (by kernel_rfl) (by kernel_rfl) (by kernel_rfl) ?hw34 ?hy34 ?hq34 (by assumption) ?r34
                    case hi34 => (simp only [List.getElem?_toArray, List.getElem?_cons_succ, List.getElem?_cons_zero]; rfl)
                    case hd34 => rfl
                    case hw34 => rfl
                    case hy34 => ((intro w hSw; (try dsimp only at hSw); go_simp) <;> (with_reducible rfl))
                    case hq34 => exact fun _ _ _ h => h
                    simp only [List.set_cons_succ, List.set_cons_zero]
                    refine take_at (i := 3) (d := 50) (oi := ?o35) (v := ?v35) ?hi35 ?hd35 (by kernel_rfl) (by kernel_rfl) (by kernel_rfl) ?hw35 ?hy35 ?hq35 (by assumption) ?r35
                    case hi35 => (simp only [List.getElem?_toArray, List.getElem?_cons_succ, List.getElem?_cons_zero]; rfl)
                    case hd35 => rfl
                    case hw35 => rfl
                    case hy35 => ((intro w hSw; (try dsimp only at hSw); go_simp) <;> (with_reducible rfl))
                    case hq35 => exact fun _ _ _ h => h
                    simp only [List.set_cons_succ, List.set_cons_zero]
                    refine skip_at (i := 4) (d := 51) (oi := ?o36) ?hi36 ?hd36 (by kernel_rfl) (by kernel_rfl) (by kernel_rfl) ?hw36 ?hq36 (by assumption) ?r36
                    case hi36 => (simp only [List.getElem?_toArray, List.getElem?_cons_succ, List.getElem?_cons_zero]; rfl)
                    case hd36 => rfl
                    case hw36 => rfl
                    case hq36 => exact fun _ _ _ h => h
                    simp only [List.set_cons_succ, List.set_cons_zero]
                    refine skip_at (i := 5) (d := 52) (oi := ?o37) ?hi37 ?hd37 (by kernel_rfl) (by kernel_rfl) (by kernel_rfl) ?hw37 ?hq37 (by assumption) ?r37
                    case hi37 => (simp only [List.getElem?_toArray, List.getElem?_cons_succ, List.getElem?_cons_zero]; rfl)
                    case hd37 => rfl
                    case hw37 => rfl
                    case hq37 => exact fun _ _ _ h => h
                    simp only [List.set_cons_succ, List.set_cons_zero]
                    refine skip_at (i := 6) (d := 53) (oi := ?o38) ?hi38 ?hd38 (by kernel_rfl) (by kernel_rfl) (by kernel_rfl) ?hw38 ?hq38 (by assumption) ?r38
                    case hi38 => (simp only [List.getElem?_toArray, List.getElem?_cons_succ, List.getElem?_cons_zero]; rfl)
                    case hd38 => rfl
                    case hw38 => rfl
                    case hq38 => exact fun _ _ _ h => h
                    simp only [List.set_cons_succ, List.set_cons_zero]
                    refine take_at (i := 7) (d := 54) (oi := ?o39) (v := ?v39) ?hi39 ?hd39 (by kernel_rfl) (by kernel_rfl) (by kernel_rfl) ?hw39 ?hy39 ?hq39 (by assumption) ?r39
                    case hi39 => (simp only [List.getElem?_toArray, List.getElem?_cons_succ, List.getElem?_cons_zero]; rfl)
                    case hd39 => rfl
                    case hw39 => rfl
                    case hy39 => ((intro w hSw; (try dsimp only at hSw); go_simp) <;> (with_reducible rfl))
                    case hq39 => exact fun _ _ _ h => h
                    simp only [List.set_cons_succ, List.set_cons_zero]
                    refine take_at (i := 8) (d := 2) (oi := ?o40) (v := ?v40) ?hi40 ?hd40 (by kernel_rfl) (by kernel_rfl) (by kernel_rfl) ?hw40 ?hy40 ?hq40 (by assumption) ?r40
                    case hi40 => (simp only [List.getElem?_toArray, List.getElem?_cons_succ, List.getElem?_cons_zero]; rfl)
                    case hd40 => rfl
                    case hw40 => rfl
                    case hy40 => ((intro w hSw; (try dsimp only at hSw); go_simp) <;> (with_reducible rfl))
                    case hq40 => exact fun _ _ _ h => h
                    simp only [List.set_cons_succ, List.set_cons_zero]
                    refine wpAnyH_done (by kernel_rfl) ?_ _
                    go_wp2_with fail
                    go_ret
                    exact ⟨ret_bool (by rw [Hk.out]; simp only [Hh1.out, Hh2.out, Hh3.out, Hh4.out, Hh5.out, Hh6.out, Hh7.out, Hh8.out, h9]; rfl), hB.out.trans (hHeld.mono hB.out.size)⟩
              | true =>
                cases h8 : s.fn with
                | false =>
                  cases h9 : decide (0 < s.ix) with
                  | false =>
                    go_enter Try.func37, Try.ntmps37
                    go_wp2_with (go_at_call 61; refine (number_any _ _).mono ?_; rintro e w' ⟨rfl, rfl⟩)
                    obtain ⟨z, hz⟩ : ∃ z, z = w.heap.size := ⟨_, rfl⟩
                    rw [← hz]
                    generalize hw0 : w.alloc _ = w0
                    have x0 : BoxS w0 z s := by rw [← hw0, hz]; first | exact BoxS.new w s | (have h := BoxS.new w s; rw [h8] at h; exact h)
                    have hB := Lib.hid (show Below w.heap.size w w0 by rw [← hw0]; exact below_al (below_d0 w) _)
                    have X0 := Lib.hid (show ∀ W, Below w0.heap.size w0 W → BoxS W z s from fun W hW => x0.below hW)
                    clear hw0 hz x0
                    have Hh1 := Lib.hid h1
                    have Hh2 := Lib.hid h2
                    have Hh3 := Lib.hid h3
                    have Hh4 := Lib.hid h4
                    have Hh5 := Lib.hid h5
                    have Hh6 := Lib.hid h6
                    have Hh7 := Lib.hid h7
                    have Hh8 := Lib.hid h8
                    clear h1 h2 h3 h4 h5 h6 h7 h8
                    refine wp_region_held_drew (S := (fun W => Below w0.heap.size w0 W)) (by kernel_rfl) (below_dr (below_d0 _)) (fun hHeld => ?_)
                    refine take_at (i := 0) (d := 47) (oi := ?o41) (v := ?v41) ?hi41 ?hd41 (by kernel_rfl) (by kernel_rfl) (by kernel_rfl) ?hw41 ?hy41 ?hq41 (by assumption) ?r41
                    case hi41 => (simp only [List.getElem?_toArray, List.getElem?_cons_zero]; rfl)
                    case hd41 => rfl
                    case hw41 => rfl
                    case hy41 => ((intro w hSw; (try dsimp only at hSw); go_simp) <;> (with_reducible rfl))
                    case hq41 => exact fun _ _ _ h => h
                    simp only [List.set_cons_succ, List.set_cons_zero]
                    refine take_at (i := 1) (d := 48) (oi := ?o42) (v := ?v42) ?hi42 ?hd42 (by kernel_rfl) (by kernel_rfl) (by kernel_rfl) ?hw42 ?hy42 ?hq42 (by assumption) ?r42
                    case hi42 => (simp only [List.getElem?_toArray, List.getElem?_cons_succ, List.getElem?_cons_zero]; rfl)
                    case hd42 => rfl
                    case hw42 => rfl
                    case hy42 => ((intro w hSw; (try dsimp only at hSw); obtain ⟨k0, k1, k2, k3, k4⟩ := (X0.out _ hSw).cells; go_simp) <;> (with_reducible rfl))
                    case hq42 => exact fun _ _ _ h => h
                    simp only [List.set_cons_succ, List.set_cons_zero]
                    refine take_at (i := 2) (d := 49) (oi := ?o43) (v := ?v43) ?hi43 ?hd43 (by kernel_rfl) (by kernel_rfl) (by kernel_rfl) ?hw43 ?hy43 ?hq43 (by assumption) ?r43
                    case hi43 => (simp only [List.getElem?_toArray, List.getElem?_cons_succ, List.getElem?_cons_zero]; rfl)
                    case hd43 => rfl
                    case hw43 => rfl
                    case hy43 => ((intro w hSw; (try dsimp only at hSw); go_simp) <;> (with_reducible rfl))
                    case hq43 => exact fun _ _ _ h => h
                    simp only [List.set_cons_succ, List.set_cons_zero]
                    refine take_at (i := 3) (d := 50) (oi := ?o44) (v := ?v44) ?hi44 ?hd44 (by kernel_rfl) (by kernel_rfl) (by kernel_rfl) ?hw44 ?hy44 ?hq44 (by assumption) ?r44
                    case hi44 => (simp only [List.getElem?_toArray, List.getElem?_cons_succ, List.getElem?_cons_zero]; rfl)
                    case hd44 => rfl
                    case hw44 => rfl
                    case hy44 => ((intro w hSw; (try dsimp only at hSw); go_simp) <;> (with_reducible rfl))
                    case hq44 => exact fun _ _ _ h => h
                    simp only [List.set_cons_succ, List.set_cons_zero]
                    refine take_at (i := 4) (d := 51) (oi := ?o45) (v := ?v45) ?hi45 ?hd45 (by kernel_rfl) (by kernel_rfl) (by kernel_rfl) ?hw45 ?hy45 ?hq45 (by assumption) ?r45
                    case hi45 => (simp only [List.getElem?_toArray, List.getElem?_cons_succ, List.getElem?_cons_zero]; rfl)
                    case hd45 => rfl
                    case hw45 => rfl
                    case hy45 => ((intro w hSw; (try dsimp only at hSw); obtain ⟨k0, k1, k2, k3, k4⟩ := (X0.out _ hSw).cells; go_simp) <;> (with_reducible rfl))
                    case hq45 => exact fun _ _ _ h => h
                    simp only [List.set_cons_succ, List.set_cons_zero]
                    refine call_at (i := 5) (d := 52) (oi := ?o46) (f := ?f46) (args := ?a46) ?hi46 ?hd46 (by kernel_rfl) ?hw46 ?he46 ?hc46
                    case hi46 => (simp only [List.getElem?_toArray, List.getElem?_cons_succ, List.getElem?_cons_zero]; rfl)
                    case hd46 => rfl
                    case hw46 => rfl
                    case he46 => (go_simp; constructor <;> with_reducible rfl)
                    refine Calls.mono (rfirst_any _) ?_
                    rintro e w1 ⟨rfl, hb1⟩
                    have kb : Below w0.heap.size w0 w1 := hHeld.trans (hb1.mono hHeld.size)
                    unfold firstP StP.v
                    dsimp only
                    refine ⟨_, rfl, kb, fun hHeld => ?_⟩
                    simp only [List.set_cons_succ, List.set_cons_zero]
                    refine take_at (i := 6) (d := 53) (oi := ?o47) (v := ?v47) ?hi47 ?hd47 (by kernel_rfl) (by kernel_rfl) (by kernel_rfl) ?hw47 ?hy47 ?hq47 (by assumption) ?r47
                    case hi47 => (simp only [List.getElem?_toArray, List.getElem?_cons_succ, List.getElem?_cons_zero]; rfl)
                    case hd47 => rfl
                    case hw47 => rfl
                    case hy47 => ((intro w hSw; (try dsimp only at hSw); go_simp) <;> (with_reducible rfl))
                    case hq47 => exact fun _ _ _ h => h
                    simp only [List.set_cons_succ, List.set_cons_zero]
                    refine take_at (i := 7) (d := 54) (oi := ?o48) (v := ?v48) ?hi48 ?hd48 (by kernel_rfl) (by kernel_rfl) (by kernel_rfl) ?hw48 ?hy48 ?hq48 (by assumption) ?r48
                    case hi48 => (simp only [List.getElem?_toArray, List.getElem?_cons_succ, List.getElem?_cons_zero]; rfl)
                    case hd48 => rfl
                    case hw48 => rfl
                    case hy48 => ((intro w hSw; (try dsimp only at hSw); go_simp) <;> (with_reducible rfl))
                    case hq48 => exact fun _ _ _ h => h
                    simp only [List.set_cons_succ, List.set_cons_zero]
                    refine take_at (i := 8) (d := 2) (oi := ?o49) (v := ?v49) ?hi49 ?hd49 (by kernel_rfl) (by kernel_rfl) (by kernel_rfl) ?hw49 ?hy49 ?hq49 (by assumption) ?r49
                    case hi49 => (simp only [List.getElem?_toArray, List.getElem?_cons_succ, List.getElem?_cons_zero]; rfl)
                    case hd49 => rfl
                    case hw49 => rfl
                    case hy49 => ((intro w hSw; (try dsimp only at hSw); go_simp) <;> (with_reducible rfl))
                    case hq49 => exact fun _ _ _ h => h
                    simp only [List.set_cons_succ, List.set_cons_zero]
                    refine wpAnyH_done (by kernel_rfl) ?_ _
                    go_wp2_with fail
                    go_ret
                    exact ⟨ret_bool (by rw [Hk.out]; simp only [Hh1.out, Hh2.out, Hh3.out, Hh4.out, Hh5.out, Hh6.out, Hh7.out, Hh8.out, h9]; rfl), hB.out.trans (hHeld.mono hB.out.size)⟩
                  | true =>
                    go_enter Try.func37, Try.ntmps37
                    go_wp2_with (go_at_call 61; refine (number_any _ _).mono ?_; rintro e w' ⟨rfl, rfl⟩)
                    obtain ⟨z, hz⟩ : ∃ z, z = w.heap.size := ⟨_, rfl⟩
                    rw [← hz]
                    generalize hw0 : w.alloc _ = w0
                    have x0 : BoxS w0 z s := by rw [← hw0, hz]; first | exact BoxS.new w s | (have h := BoxS.new w s; rw [h8] at h; exact h)
                    have hB := Lib.hid (show Below w.heap.size w w0 by rw [← hw0]; exact below_al (below_d0 w) _)
                    have X0 := Lib.hid (show ∀ W, Below w0.heap.size w0 W → BoxS W z s from fun W hW => x0.below hW)
                    clear hw0 hz x0
                    have Hh1 := Lib.hid h1
                    have Hh2 := Lib.hid h2
                    have Hh3 := Lib.hid h3
                    have Hh4 := Lib.hid h4
                    have Hh5 := Lib.hid h5
                    have Hh6 := Lib.hid h6
                    have Hh7 := Lib.hid h7
                    have Hh8 := Lib.hid h8
                    clear h1 h2 h3 h4 h5 h6 h7 h8
                    refine wp_region_held_drew (S := (fun W => Below w0.heap.size w0 W)) (by kernel_rfl) (below_dr (below_d0 _)) (fun hHeld => ?_)
                    refine take_at (i := 0) (d := 47) (oi := ?o50) (v := ?v50) ?hi50 ?hd50 (by kernel_rfl) (by kernel_rfl) (by kernel_rfl) ?hw50 ?hy50 ?hq50 (by assumption) ?r50
                    case hi50 => (simp only [List.getElem?_toArray, List.getElem?_cons_zero]; rfl)
                    case hd50 => rfl
                    case hw50 => rfl
                    case hy50 => ((intro w hSw; (try dsimp only at hSw); go_simp) <;> (with_reducible rfl))
                    case hq50 => exact fun _ _ _ h => h
                    simp only [List.set_cons_succ, List.set_cons_zero]
                    refine take_at (i := 1) (d := 48) (oi := ?o51) (v := ?v51) ?hi51 ?hd51 (by kernel_rfl) (by kernel_rfl) (by kernel_rfl) ?hw51 ?hy51 ?hq51 (by assumption) ?r51
                    case hi51 => (simp only [List.getElem?_toArray, List.getElem?_cons_succ, List.getElem?_cons_zero]; rfl)
                    case hd51 => rfl
                    case hw51 => rfl
                    case hy51 => ((intro w hSw; (try dsimp only at hSw); obtain ⟨k0, k1, k2, k3, k4⟩ := (X0.out _ hSw).cells; go_simp) <;> (with_reducible rfl))
                    case hq51 => exact fun _ _ _ h => h
                    simp only [List.set_cons_succ, List.set_cons_zero]
                    refine take_at (i := 2) (d := 49) (oi := ?o52) (v := ?v52) ?hi52 ?hd52 (by kernel_rfl) (by kernel_rfl) (by kernel_rfl) ?hw52 ?hy52 ?hq52 (by assumption) ?r52
                    case hi52 => (simp only [List.getElem?_toArray, List.getElem?_cons_succ, List.getElem?_cons_zero]; rfl)
                    case hd52 => rfl
                    case hw52 => rfl
                    case hy52 => ((intro w hSw; (try dsimp only at hSw); go_simp) <;> (with_reducible rfl))
                    case hq52 => exact fun _ _ _ h => h
                    simp only [List.set_cons_succ, List.set_cons_zero]
                    refine take_at (i := 3) (d := 50) (oi := ?o53) (v := ?v53) ?hi53 ?hd53 (by kernel_rfl) (by kernel_rfl) (by kernel_rfl) ?hw53 ?hy53 ?hq53 (by assumption) ?r53
                    case hi53 => (simp only [List.getElem?_toArray, List.getElem?_cons_succ, List.getElem?_cons_zero]; rfl)
                    case hd53 => rfl
                    case hw53 => rfl
                    case hy53 => ((intro w hSw; (try dsimp only at hSw); go_simp) <;> (with_reducible rfl))
                    case hq53 => exact fun _ _ _ h => h
                    simp only [List.set_cons_succ, List.set_cons_zero]
                    refine skip_at (i := 4) (d := 51) (oi := ?o54) ?hi54 ?hd54 (by kernel_rfl) (by kernel_rfl) (by kernel_rfl) ?hw54 ?hq54 (by assumption) ?r54
                    case hi54 => (simp only [List.getElem?_toArray, List.getElem?_cons_succ, List.getElem?_cons_zero]; rfl)
                    case hd54 => rfl
                    case hw54 => rfl
                    case hq54 => exact fun _ _ _ h => h
                    simp only [List.set_cons_succ, List.set_cons_zero]
                    refine skip_at (i := 5) (d := 52) (oi := ?o55) ?hi55 ?hd55 (by kernel_rfl) (by kernel_rfl) (by kernel_rfl) ?hw55 ?hq55 (by assumption) ?r55
                    case hi55 => (simp only [List.getElem?_toArray, List.getElem?_cons_succ, List.getElem?_cons_zero]; rfl)
                    case hd55 => rfl
                    case hw55 => rfl
                    case hq55 => exact fun _ _ _ h => h
                    simp only [List.set_cons_succ, List.set_cons_zero]
                    refine skip_at (i := 6) (d := 53) (oi := ?o56) ?hi56 ?hd56 (by kernel_rfl) (by kernel_rfl) (by kernel_rfl) ?hw56 ?hq56 (by assumption) ?r56
                    case hi56 => (simp only [List.getElem?_toArray, List.getElem?_cons_succ, List.getElem?_cons_zero]; rfl)
                    case hd56 => rfl
                    case hw56 => rfl
                    case hq56 => exact fun _ _ _ h => h
                    simp only [List.set_cons_succ, List.set_cons_zero]
                    refine take_at (i := 7) (d := 54) (oi := ?o57) (v := ?v57) ?hi57 ?hd57 (by kernel_rfl) (by kernel_rfl) (by kernel_rfl) ?hw57 ?hy57 ?hq57 (by assumption) ?r57
                    case hi57 => (simp only [List.getElem?_toArray, List.getElem?_cons_succ, List.getElem?_cons_zero]; rfl)
                    case hd57 => rfl
                    case hw57 => rfl
                    case hy57 => ((intro w hSw; (try dsimp only at hSw); go_simp) <;> (with_reducible rfl))
                    case hq57 => exact fun _ _ _ h => h
                    simp only [List.set_cons_succ, List.set_cons_zero]
                    refine take_at (i := 8) (d := 2) (oi := ?o58) (v := ?v58) ?hi58 ?hd58 (by kernel_rfl) (by kernel_rfl) (by kernel_rfl) ?hw58 ?hy58 ?hq58 (by assumption) ?r58
                    case hi58 => (simp only [List.getElem?_toArray, List.getElem?_cons_succ, List.getElem?_cons_zero]; rfl)
                    case hd58 => rfl
                    case hw58 => rfl
                    case hy58 => ((intro w hSw; (try dsimp only at hSw); go_simp) <;> (with_reducible rfl))
                    case hq58 => exact fun _ _ _ h => h
                    simp only [List.set_cons_succ, List.set_cons_zero]
                    refine wpAnyH_done (by kernel_rfl) ?_ _
                    go_wp2_with fail
                    go_ret
                    exact ⟨ret_bool (by rw [Hk.out]; simp only [Hh1.out, Hh2.out, Hh3.out, Hh4.out, Hh5.out, Hh6.out, Hh7.out, Hh8.out, h9]; rfl), hB.out.trans (hHeld.mono hB.out.size)⟩
                | true =>
                  go_enter Try.func37, Try.ntmps37
                  go_wp2_with (go_at_call 61; refine (number_any _ _).mono ?_; rintro e w' ⟨rfl, rfl⟩)
                  go_ret
                  exact ⟨ret_bool (by rw [Hk.out]; simp only [h1, h2, h3, h4, h5, h6, h7, h8]; rfl), below_al (below_d0 w) _⟩
            | true =>
              cases h7 : (s.lv != 2) with
              | false =>
                cases h8 : s.fn with
                | false =>
                  cases h9 : decide (0 < s.ix) with
                  | false =>
                    go_enter Try.func37, Try.ntmps37
                    go_wp2_with (go_at_call 61; refine (number_any _ _).mono ?_; rintro e w' ⟨rfl, rfl⟩)
                    obtain ⟨z, hz⟩ : ∃ z, z = w.heap.size := ⟨_, rfl⟩
                    rw [← hz]
                    generalize hw0 : w.alloc _ = w0
                    have x0 : BoxS w0 z s := by rw [← hw0, hz]; first | exact BoxS.new w s | (have h := BoxS.new w s; rw [h8] at h; exact h)
                    have hB := Lib.hid (show Below w.heap.size w w0 by rw [← hw0]; exact below_al (below_d0 w) _)
                    have X0 := Lib.hid (show ∀ W, Below w0.heap.size w0 W → BoxS W z s from fun W hW => x0.below hW)
                    clear hw0 hz x0
                    have Hh1 := Lib.hid h1
                    have Hh2 := Lib.hid h2
                    have Hh3 := Lib.hid h3
                    have Hh4 := Lib.hid h4
                    have Hh5 := Lib.hid h5
                    have Hh6 := Lib.hid h6
                    have Hh7 := Lib.hid h7
                    have Hh8 := Lib.hid h8
                    clear h1 h2 h3 h4 h5 h6 h7 h8
                    refine wp_region_held_drew (S := (fun W => Below w0.heap.size w0 W)) (by kernel_rfl) (below_dr (below_d0 _)) (fun hHeld => ?_)
                    refine take_at (i := 0) (d := 47) (oi := ?o59) (v := ?v59) ?hi59 ?hd59 (by kernel_rfl) (by kernel_rfl) (by kernel_rfl) ?hw59 ?hy59 ?hq59 (by assumption) ?r59
                    case hi59 => (simp only [List.getElem?_toArray, List.getElem?_cons_zero]; rfl)
                    case hd59 => rfl
                    case hw59 => rfl
                    case hy59 => ((intro w hSw; (try dsimp only at hSw); go_simp) <;> (with_reducible rfl))
                    case hq59 => exact fun _ _ _ h => h
                    simp only [List.set_cons_succ, List.set_cons_zero]
                    refine take_at (i := 1) (d := 48) (oi := ?o60) (v := ?v60) ?hi60 ?hd60 (by kernel_rfl) (by kernel_rfl) (by kernel_rfl) ?hw60 ?hy60 ?hq60 (by assumption) ?r60
                    case hi60 => (simp only [List.getElem?_toArray, List.getElem?_cons_succ, List.getElem?_cons_zero]; rfl)
                    case hd60 => rfl
                    case hw60 => rfl
                    case hy60 => ((intro w hSw; (try dsimp only at hSw); obtain ⟨k0, k1, k2, k3, k4⟩ := (X0.out _ hSw).cells; go_simp) <;> (with_reducible rfl))
                    case hq60 => exact fun _ _ _ h => h
                    simp only [List.set_cons_succ, List.set_cons_zero]
                    refine take_at (i := 2) (d := 49) (oi := ?o61) (v := ?v61) ?hi61 ?hd61 (by kernel_rfl) (by kernel_rfl) (by kernel_rfl) ?hw61 ?hy61 ?hq61 (by assumption) ?r61
                    case hi61 => (simp only [List.getElem?_toArray, List.getElem?_cons_succ, List.getElem?_cons_zero]; rfl)
                    case hd61 => rfl
                    case hw61 => rfl
                    case hy61 => ((intro w hSw; (try dsimp only at hSw); go_simp) <;> (with_reducible rfl))
                    case hq61 => exact fun _ _ _ h => h
                    simp only [List.set_cons_succ, List.set_cons_zero]
                    refine take_at (i := 3) (d := 50) (oi := ?o62) (v := ?v62) ?hi62 ?hd62 (by kernel_rfl) (by kernel_rfl) (by kernel_rfl) ?hw62 ?hy62 ?hq62 (by assumption) ?r62
                    case hi62 => (simp only [List.getElem?_toArray, List.getElem?_cons_succ, List.getElem?_cons_zero]; rfl)
                    case hd62 => rfl
                    case hw62 => rfl
                    case hy62 => ((intro w hSw; (try dsimp only at hSw); go_simp) <;> (with_reducible rfl))
                    case hq62 => exact fun _ _ _ h => h
                    simp only [List.set_cons_succ, List.set_cons_zero]
                    refine take_at (i := 4) (d := 51) (oi := ?o63) (v := ?v63) ?hi63 ?hd63 (by kernel_rfl) (by kernel_rfl) (by kernel_rfl) ?hw63 ?hy63 ?hq63 (by assumption) ?r63
                    case hi63 => (simp only [List.getElem?_toArray, List.getElem?_cons_succ, List.getElem?_cons_zero]; rfl)
                    case hd63 => rfl
                    case hw63 => rfl
                    case hy63 => ((intro w hSw; (try dsimp only at hSw); obtain ⟨k0, k1, k2, k3, k4⟩ := (X0.out _ hSw).cells; go_simp) <;> (with_reducible rfl))
                    case hq63 => exact fun _ _ _ h => h
                    simp only [List.set_cons_succ, List.set_cons_zero]
                    refine call_at (i := 5) (d := 52) (oi := ?o64) (f := ?f64) (args := ?a64) ?hi64 ?hd64 (by kernel_rfl) ?hw64 ?he64 ?hc64
                    case hi64 => (simp only [List.getElem?_toArray, List.getElem?_cons_succ, List.getElem?_cons_zero]; rfl)
                    case hd64 => rfl
                    case hw64 => rfl
                    case he64 => (go_simp; constructor <;> with_reducible rfl)
                    refine Calls.mono (rfirst_any _) ?_
                    rintro e w1 ⟨rfl, hb1⟩
                    have kb : Below w0.heap.size w0 w1 := hHeld.trans (hb1.mono hHeld.size)
                    unfold firstP StP.v
                    dsimp only
                    refine ⟨_, rfl, kb, fun hHeld => ?_⟩
                    simp only [List.set_cons_succ, List.set_cons_zero]
                    refine take_at (i := 6) (d := 53) (oi := ?o65) (v := ?v65) ?hi65 ?hd65 (by kernel_rfl) (by kernel_rfl) (by kernel_rfl) ?hw65 ?hy65 ?hq65 (by assumption) ?r65
                    case hi65 => (simp only [List.getElem?_toArray, List.getElem?_cons_succ, List.getElem?_cons_zero]; rfl)
                    case hd65 => rfl
                    case hw65 => rfl
                    case hy65 => ((intro w hSw; (try dsimp only at hSw); go_simp) <;> (with_reducible rfl))
                    case hq65 => exact fun _ _ _ h => h
                    simp only [List.set_cons_succ, List.set_cons_zero]
                    refine take_at (i := 7) (d := 54) (oi := ?o66) (v := ?v66) ?hi66 ?hd66 (by kernel_rfl) (by kernel_rfl) (by kernel_rfl) ?hw66 ?hy66 ?hq66 (by assumption) ?r66
                    case hi66 => (simp only [List.getElem?_toArray, List.getElem?_cons_succ, List.getElem?_cons_zero]; rfl)
                    case hd66 => rfl
                    case hw66 => rfl
                    case hy66 => ((intro w hSw; (try dsimp only at hSw); go_simp) <;> (with_reducible rfl))
                    case hq66 => exact fun _ _ _ h => h
                    simp only [List.set_cons_succ, List.set_cons_zero]
                    refine take_at (i := 8) (d := 2) (oi := ?o67) (v := ?v67) ?hi67 ?hd67 (by kernel_rfl) (by kernel_rfl) (by kernel_rfl) ?hw67 ?hy67 ?hq67 (by assumption) ?r67
                    case hi67 => (simp only [List.getElem?_toArray, List.getElem?_cons_succ, List.getElem?_cons_zero]; rfl)
                    case hd67 => rfl
                    case hw67 => rfl
                    case hy67 => ((intro w hSw; (try dsimp only at hSw); go_simp) <;> (with_reducible rfl))
                    case hq67 => exact fun _ _ _ h => h
                    simp only [List.set_cons_succ, List.set_cons_zero]
                    refine wpAnyH_done (by kernel_rfl) ?_ _
                    go_wp2_with fail
                    go_ret
                    exact ⟨ret_bool (by rw [Hk.out]; simp only [Hh1.out, Hh2.out, Hh3.out, Hh4.out, Hh5.out, Hh6.out, Hh7.out, Hh8.out, h9]; rfl), hB.out.trans (hHeld.mono hB.out.size)⟩
                  | true =>
                    go_enter Try.func37, Try.ntmps37
                    go_wp2_with (go_at_call 61; refine (number_any _ _).mono ?_; rintro e w' ⟨rfl, rfl⟩)
                    obtain ⟨z, hz⟩ : ∃ z, z = w.heap.size := ⟨_, rfl⟩
                    rw [← hz]
                    generalize hw0 : w.alloc _ = w0
                    have x0 : BoxS w0 z s := by rw [← hw0, hz]; first | exact BoxS.new w s | (have h := BoxS.new w s; rw [h8] at h; exact h)
                    have hB := Lib.hid (show Below w.heap.size w w0 by rw [← hw0]; exact below_al (below_d0 w) _)
                    have X0 := Lib.hid (show ∀ W, Below w0.heap.size w0 W → BoxS W z s from fun W hW => x0.below hW)
                    clear hw0 hz x0
                    have Hh1 := Lib.hid h1
                    have Hh2 := Lib.hid h2
                    have Hh3 := Lib.hid h3
                    have Hh4 := Lib.hid h4
                    have Hh5 := Lib.hid h5
                    have Hh6 := Lib.hid h6
                    have Hh7 := Lib.hid h7
                    have Hh8 := Lib.hid h8
                    clear h1 h2 h3 h4 h5 h6 h7 h8
                    refine wp_region_held_drew (S := (fun W => Below w0.heap.size w0 W)) (by kernel_rfl) (below_dr (below_d0 _)) (fun hHeld => ?_)
                    refine take_at (i := 0) (d := 47) (oi := ?o68) (v := ?v68) ?hi68 ?hd68 (by kernel_rfl) (by kernel_rfl) (by kernel_rfl) ?hw68 ?hy68 ?hq68 (by assumption) ?r68
                    case hi68 => (simp only [List.getElem?_toArray, List.getElem?_cons_zero]; rfl)
                    case hd68 => rfl
                    case hw68 => rfl
                    case hy68 => ((intro w hSw; (try dsimp only at hSw); go_simp) <;> (with_reducible rfl))
                    case hq68 => exact fun _ _ _ h => h
                    simp only [List.set_cons_succ, List.set_cons_zero]
                    refine take_at (i := 1) (d := 48) (oi := ?o69) (v := ?v69) ?hi69 ?hd69 (by kernel_rfl) (by kernel_rfl) (by kernel_rfl) ?hw69 ?hy69 ?hq69 (by assumption) ?r69
                    case hi69 => (simp only [List.getElem?_toArray, List.getElem?_cons_succ, List.getElem?_cons_zero]; rfl)
                    case hd69 => rfl
                    case hw69 => rfl
                    case hy69 => ((intro w hSw; (try dsimp only at hSw); obtain ⟨k0, k1, k2, k3, k4⟩ := (X0.out _ hSw).cells; go_simp) <;> (with_reducible rfl))
                    case hq69 => exact fun _ _ _ h => h
                    simp only [List.set_cons_succ, List.set_cons_zero]
                    refine take_at (i := 2) (d := 49) (oi := ?o70) (v := ?v70) ?hi70 ?hd70 (by kernel_rfl) (by kernel_rfl) (by kernel_rfl) ?hw70 ?hy70 ?hq70 (by assumption) ?r70
                    case hi70 => (simp only [List.getElem?_toArray, List.getElem?_cons_succ, List.getElem?_cons_zero]; rfl)
                    case hd70 => rfl
                    case hw70 => rfl
                    case hy70 => ((intro w hSw; (try dsimp only at hSw); go_simp) <;> (with_reducible rfl))
                    case hq70 => exact fun _ _ _ h => h
                    simp only [List.set_cons_succ, List.set_cons_zero]
                    refine take_at (i := 3) (d := 50) (oi := ?o71) (v := ?v71) ?hi71 ?hd71 (by kernel_rfl) (by kernel_rfl) (by kernel_rfl) ?hw71 ?hy71 ?hq71 (by assumption) ?r71
                    case hi71 => (simp only [List.getElem?_toArray, List.getElem?_cons_succ, List.getElem?_cons_zero]; rfl)
                    case hd71 => rfl
                    case hw71 => rfl
                    case hy71 => ((intro w hSw; (try dsimp only at hSw); go_simp) <;> (with_reducible rfl))
                    case hq71 => exact fun _ _ _ h => h
                    simp only [List.set_cons_succ, List.set_cons_zero]
                    refine skip_at (i := 4) (d := 51) (oi := ?o72) ?hi72 ?hd72 (by kernel_rfl) (by kernel_rfl) (by kernel_rfl) ?hw72 ?hq72 (by assumption) ?r72
                    case hi72 => (simp only [List.getElem?_toArray, List.getElem?_cons_succ, List.getElem?_cons_zero]; rfl)
                    case hd72 => rfl
                    case hw72 => rfl
                    case hq72 => exact fun _ _ _ h => h
                    simp only [List.set_cons_succ, List.set_cons_zero]
                    refine skip_at (i := 5) (d := 52) (oi := ?o73) ?hi73 ?hd73 (by kernel_rfl) (by kernel_rfl) (by kernel_rfl) ?hw73 ?hq73 (by assumption) ?r73
                    case hi73 => (simp only [List.getElem?_toArray, List.getElem?_cons_succ, List.getElem?_cons_zero]; rfl)
                    case hd73 => rfl
                    case hw73 => rfl
                    case hq73 => exact fun _ _ _ h => h
                    simp only [List.set_cons_succ, List.set_cons_zero]
                    refine skip_at (i := 6) (d := 53) (oi := ?o74) ?hi74 ?hd74 (by kernel_rfl) (by kernel_rfl) (by kernel_rfl) ?hw74 ?hq74 (by assumption) ?r74
                    case hi74 => (simp only [List.getElem?_toArray, List.getElem?_cons_succ, List.getElem?_cons_zero]; rfl)
                    case hd74 => rfl
                    case hw74 => rfl
                    case hq74 => exact fun _ _ _ h => h
                    simp only [List.set_cons_succ, List.set_cons_zero]
                    refine take_at (i := 7) (d := 54) (oi := ?o75) (v := ?v75) ?hi75 ?hd75 (by kernel_rfl) (by kernel_rfl) (by kernel_rfl) ?hw75 ?hy75 ?hq75 (by assumption) ?r75
                    case hi75 => (simp only [List.getElem?_toArray, List.getElem?_cons_succ, List.getElem?_cons_zero]; rfl)
                    case hd75 => rfl
                    case hw75 => rfl
                    case hy75 => ((intro w hSw; (try dsimp only at hSw); go_simp) <;> (with_reducible rfl))
                    case hq75 => exact fun _ _ _ h => h
                    simp only [List.set_cons_succ, List.set_cons_zero]
                    refine take_at (i := 8) (d := 2) (oi := ?o76) (v := ?v76) ?hi76 ?hd76 (by kernel_rfl) (by kernel_rfl) (by kernel_rfl) ?hw76 ?hy76 ?hq76 (by assumption) ?r76
                    case hi76 => (simp only [List.getElem?_toArray, List.getElem?_cons_succ, List.getElem?_cons_zero]; rfl)
                    case hd76 => rfl
                    case hw76 => rfl
                    case hy76 => ((intro w hSw; (try dsimp only at hSw); go_simp) <;> (with_reducible rfl))
                    case hq76 => exact fun _ _ _ h => h
                    simp only [List.set_cons_succ, List.set_cons_zero]
                    refine wpAnyH_done (by kernel_rfl) ?_ _
                    go_wp2_with fail
                    go_ret
                    exact ⟨ret_bool (by rw [Hk.out]; simp only [Hh1.out, Hh2.out, Hh3.out, Hh4.out, Hh5.out, Hh6.out, Hh7.out, Hh8.out, h9]; rfl), hB.out.trans (hHeld.mono hB.out.size)⟩
                | true =>
                  cases h9 : decide (0 < s.ix) with
                  | false =>
                    go_enter Try.func37, Try.ntmps37
                    go_wp2_with (go_at_call 61; refine (number_any _ _).mono ?_; rintro e w' ⟨rfl, rfl⟩)
                    obtain ⟨z, hz⟩ : ∃ z, z = w.heap.size := ⟨_, rfl⟩
                    rw [← hz]
                    generalize hw0 : w.alloc _ = w0
                    have x0 : BoxS w0 z s := by rw [← hw0, hz]; first | exact BoxS.new w s | (have h := BoxS.new w s; rw [h8] at h; exact h)
                    have hB := Lib.hid (show Below w.heap.size w w0 by rw [← hw0]; exact below_al (below_d0 w) _)
                    have X0 := Lib.hid (show ∀ W, Below w0.heap.size w0 W → BoxS W z s from fun W hW => x0.below hW)
                    clear hw0 hz x0
                    have Hh1 := Lib.hid h1
                    have Hh2 := Lib.hid h2
                    have Hh3 := Lib.hid h3
                    have Hh4 := Lib.hid h4
                    have Hh5 := Lib.hid h5
                    have Hh6 := Lib.hid h6
                    have Hh7 := Lib.hid h7
                    have Hh8 := Lib.hid h8
                    clear h1 h2 h3 h4 h5 h6 h7 h8
                    refine wp_region_held_drew (S := (fun W => Below w0.heap.size w0 W)) (by kernel_rfl) (below_dr (below_d0 _)) (fun hHeld => ?_)
                    refine take_at (i := 0) (d := 47) (oi := ?o77) (v := ?v77) ?hi77 ?hd77 (by kernel_rfl) (by kernel_rfl) (by kernel_rfl) ?hw77 ?hy77 ?hq77 (by assumption) ?r77
                    case hi77 => (simp only [List.getElem?_toArray, List.getElem?_cons_zero]; rfl)
                    case hd77 => rfl
                    case hw77 => rfl
                    case hy77 => ((intro w hSw; (try dsimp only at hSw); go_simp) <;> (with_reducible rfl))
                    case hq77 => exact fun _ _ _ h => h
                    simp only [List.set_cons_succ, List.set_cons_zero]
                    refine take_at (i := 1) (d := 48) (oi := ?o78) (v := ?v78) ?hi78 ?hd78 (by kernel_rfl) (by kernel_rfl) (by kernel_rfl) ?hw78 ?hy78 ?hq78 (by assumption) ?r78
                    case hi78 => (simp only [List.getElem?_toArray, List.getElem?_cons_succ, List.getElem?_cons_zero]; rfl)
                    case hd78 => rfl
                    case hw78 => rfl
                    case hy78 => ((intro w hSw; (try dsimp only at hSw); obtain ⟨k0, k1, k2, k3, k4⟩ := (X0.out _ hSw).cells; go_simp) <;> (with_reducible rfl))
                    case hq78 => exact fun _ _ _ h => h
                    simp only [List.set_cons_succ, List.set_cons_zero]
                    refine take_at (i := 2) (d := 49) (oi := ?o79) (v := ?v79) ?hi79 ?hd79 (by kernel_rfl) (by kernel_rfl) (by kernel_rfl) ?hw79 ?hy79 ?hq79 (by assumption) ?r79
                    case hi79 => (simp only [List.getElem?_toArray, List.getElem?_cons_succ, List.getElem?_cons_zero]; rfl)
                    case hd79 => rfl
                    case hw79 => rfl
                    case hy79 => ((intro w hSw; (try dsimp only at hSw); go_simp) <;> (with_reducible rfl))
                    case hq79 => exact fun _ _ _ h => h
                    simp only [List.set_cons_succ, List.set_cons_zero]
                    refine take_at (i := 3) (d := 50) (oi := ?o80) (v := ?v80) ?hi80 ?hd80 (by kernel_rfl) (by kernel_rfl) (by kernel_rfl) ?hw80 ?hy80 ?hq80 (by assumption) ?r80
                    case hi80 => (simp only [List.getElem?_toArray, List.getElem?_cons_succ, List.getElem?_cons_zero]; rfl)
                    case hd80 => rfl
                    case hw80 => rfl
                    case hy80 => ((intro w hSw; (try dsimp only at hSw); go_simp) <;> (with_reducible rfl))
                    case hq80 => exact fun _ _ _ h => h
                    simp only [List.set_cons_succ, List.set_cons_zero]
                    refine take_at (i := 4) (d := 51) (oi := ?o81) (v := ?v81) ?hi81 ?hd81 (by kernel_rfl) (by kernel_rfl) (by kernel_rfl) ?hw81 ?hy81 ?hq81 (by assumption) ?r81
                    case hi81 => (simp only [List.getElem?_toArray, List.getElem?_cons_succ, List.getElem?_cons_zero]; rfl)
                    case hd81 => rfl
                    case hw81 => rfl
                    case hy81 => ((intro w hSw; (try dsimp only at hSw); obtain ⟨k0, k1, k2, k3, k4⟩ := (X0.out _ hSw).cells; go_simp) <;> (with_reducible rfl))
                    case hq81 => exact fun _ _ _ h => h
                    simp only [List.set_cons_succ, List.set_cons_zero]
                    refine call_at (i := 5) (d := 52) (oi := ?o82) (f := ?f82) (args := ?a82) ?hi82 ?hd82 (by kernel_rfl) ?hw82 ?he82 ?hc82
                    case hi82 => (simp only [List.getElem?_toArray, List.getElem?_cons_succ, List.getElem?_cons_zero]; rfl)
                    case hd82 => rfl
                    case hw82 => rfl
                    case he82 => (go_simp; constructor <;> with_reducible rfl)
                    refine Calls.mono (rfirst_any _) ?_
                    rintro e w1 ⟨rfl, hb1⟩
                    have kb : Below w0.heap.size w0 w1 := hHeld.trans (hb1.mono hHeld.size)
                    unfold firstP StP.v
                    dsimp only
                    refine ⟨_, rfl, kb, fun hHeld => ?_⟩
                    simp only [List.set_cons_succ, List.set_cons_zero]
                    refine take_at (i := 6) (d := 53) (oi := ?o83) (v := ?v83) ?hi83 ?hd83 (by kernel_rfl) (by kernel_rfl) (by kernel_rfl) ?hw83 ?hy83 ?hq83 (by assumption) ?r83
                    case hi83 => (simp only [List.getElem?_toArray, List.getElem?_cons_succ, List.getElem?_cons_zero]; rfl)
                    case hd83 => rfl
                    case hw83 => rfl
                    case hy83 => ((intro w hSw; (try dsimp only at hSw); go_simp) <;> (with_reducible rfl))
                    case hq83 => exact fun _ _ _ h => h
                    simp only [List.set_cons_succ, List.set_cons_zero]
                    refine take_at (i := 7) (d := 54) (oi := ?o84) (v := ?v84) ?hi84 ?hd84 (by kernel_rfl) (by kernel_rfl) (by kernel_rfl) ?hw84 ?hy84 ?hq84 (by assumption) ?r84
                    case hi84 => (simp only [List.getElem?_toArray, List.getElem?_cons_succ, List.getElem?_cons_zero]; rfl)
                    case hd84 => rfl
                    case hw84 => rfl
                    case hy84 => ((intro w hSw; (try dsimp only at hSw); go_simp) <;> (with_reducible rfl))
                    case hq84 => exact fun _ _ _ h => h
                    simp only [List.set_cons_succ, List.set_cons_zero]
                    refine take_at (i := 8) (d := 2) (oi := ?o85) (v := ?v85) ?hi85 ?hd85 (by kernel_rfl) (by kernel_rfl) (by kernel_rfl) ?hw85 ?hy85 ?hq85 (by assumption) ?r85
                    case hi85 => (simp only [List.getElem?_toArray, List.getElem?_cons_succ, List.getElem?_cons_zero]; rfl)
                    case hd85 => rfl
                    case hw85 => rfl
                    case hy85 => ((intro w hSw; (try dsimp only at hSw); go_simp) <;> (with_reducible rfl))
                    case hq85 => exact fun _ _ _ h => h
                    simp only [List.set_cons_succ, List.set_cons_zero]
                    refine wpAnyH_done (by kernel_rfl) ?_ _
                    go_wp2_with fail
                    go_ret
                    exact ⟨ret_bool (by rw [Hk.out]; simp only [Hh1.out, Hh2.out, Hh3.out, Hh4.out, Hh5.out, Hh6.out, Hh7.out, Hh8.out, h9]; rfl), hB.out.trans (hHeld.mono hB.out.size)⟩
                  | true =>
                    go_enter Try.func37, Try.ntmps37
                    go_wp2_with (go_at_call 61; refine (number_any _ _).mono ?_; rintro e w' ⟨rfl, rfl⟩)
                    obtain ⟨z, hz⟩ : ∃ z, z = w.heap.size := ⟨_, rfl⟩
                    rw [← hz]
                    generalize hw0 : w.alloc _ = w0
                    have x0 : BoxS w0 z s := by rw [← hw0, hz]; first | exact BoxS.new w s | (have h := BoxS.new w s; rw [h8] at h; exact h)
                    have hB := Lib.hid (show Below w.heap.size w w0 by rw [← hw0]; exact below_al (below_d0 w) _)
                    have X0 := Lib.hid (show ∀ W, Below w0.heap.size w0 W → BoxS W z s from fun W hW => x0.below hW)
                    clear hw0 hz x0
                    have Hh1 := Lib.hid h1
                    have Hh2 := Lib.hid h2
                    have Hh3 := Lib.hid h3
                    have Hh4 := Lib.hid h4
                    have Hh5 := Lib.hid h5
                    have Hh6 := Lib.hid h6
                    have Hh7 := Lib.hid h7
                    have Hh8 := Lib.hid h8
                    clear h1 h2 h3 h4 h5 h6 h7 h8
                    refine wp_region_held_drew (S := (fun W => Below w0.heap.size w0 W)) (by kernel_rfl) (below_dr (below_d0 _)) (fun hHeld => ?_)
                    refine take_at (i := 0) (d := 47) (oi := ?o86) (v := ?v86) ?hi86 ?hd86 (by kernel_rfl) (by kernel_rfl) (by kernel_rfl) ?hw86 ?hy86 ?hq86 (by assumption) ?r86
                    case hi86 => (simp only [List.getElem?_toArray, List.getElem?_cons_zero]; rfl)
                    case hd86 => rfl
                    case hw86 => rfl
                    case hy86 => ((intro w hSw; (try dsimp only at hSw); go_simp) <;> (with_reducible rfl))
                    case hq86 => exact fun _ _ _ h => h
                    simp only [List.set_cons_succ, List.set_cons_zero]
                    refine take_at (i := 1) (d := 48) (oi := ?o87) (v := ?v87) ?hi87 ?hd87 (by kernel_rfl) (by kernel_rfl) (by kernel_rfl) ?hw87 ?hy87 ?hq87 (by assumption) ?r87
                    case hi87 => (simp only [List.getElem?_toArray, List.getElem?_cons_succ, List.getElem?_cons_zero]; rfl)
                    case hd87 => rfl
                    case hw87 => rfl
                    case hy87 => ((intro w hSw; (try dsimp only at hSw); obtain ⟨k0, k1, k2, k3, k4⟩ := (X0.out _ hSw).cells; go_simp) <;> (with_reducible rfl))
                    case hq87 => exact fun _ _ _ h => h
                    simp only [List.set_cons_succ, List.set_cons_zero]
                    refine take_at (i := 2) (d := 49) (oi := ?o88) (v := ?v88) ?hi88 ?hd88 (by kernel_rfl) (by kernel_rfl) (by kernel_rfl) ?hw88 ?hy88 ?hq88 (by assumption) ?r88
                    case hi88 => (simp only [List.getElem?_toArray, List.getElem?_cons_succ, List.getElem?_cons_zero]; rfl)
                    case hd88 => rfl
                    case hw88 => rfl
                    case hy88 => ((intro w hSw; (try dsimp only at hSw); go_simp) <;> (with_reducible rfl))
                    case hq88 => exact fun _ _ _ h => h
                    simp only [List.set_cons_succ, List.set_cons_zero]
                    refine take_at (i := 3) (d := 50) (oi := ?o89) (v := ?v89) ?hi89 ?hd89 (by kernel_rfl) (by kernel_rfl) (by kernel_rfl) ?hw89 ?hy89 ?hq89 (by assumption) ?r89
                    case hi89 => (simp only [List.getElem?_toArray, List.getElem?_cons_succ, List.getElem?_cons_zero]; rfl)
                    case hd89 => rfl
                    case hw89 => rfl
                    case hy89 => ((intro w hSw; (try dsimp only at hSw); go_simp) <;> (with_reducible rfl))
                    case hq89 => exact fun _ _ _ h => h
                    simp only [List.set_cons_succ, List.set_cons_zero]
                    refine skip_at (i := 4) (d := 51) (oi := ?o90) ?hi90 ?hd90 (by kernel_rfl) (by kernel_rfl) (by kernel_rfl) ?hw90 ?hq90 (by assumption) ?r90
                    case hi90 => (simp only [List.getElem?_toArray, List.getElem?_cons_succ, List.getElem?_cons_zero]; rfl)
                    case hd90 => rfl
                    case hw90 => rfl
                    case hq90 => exact fun _ _ _ h => h
                    simp only [List.set_cons_succ, List.set_cons_zero]
                    refine skip_at (i := 5) (d := 52) (oi := ?o91) ?hi91 ?hd91 (by kernel_rfl) (by kernel_rfl) (by kernel_rfl) ?hw91 ?hq91 (by assumption) ?r91
                    case hi91 => (simp only [List.getElem?_toArray, List.getElem?_cons_succ, List.getElem?_cons_zero]; rfl)
                    case hd91 => rfl
                    case hw91 => rfl
                    case hq91 => exact fun _ _ _ h => h
                    simp only [List.set_cons_succ, List.set_cons_zero]
                    refine skip_at (i := 6) (d := 53) (oi := ?o92) ?hi92 ?hd92 (by kernel_rfl) (by kernel_rfl) (by kernel_rfl) ?hw92 ?hq92 (by assumption) ?r92
                    case hi92 => (simp only [List.getElem?_toArray, List.getElem?_cons_succ, List.getElem?_cons_zero]; rfl)
                    case hd92 => rfl
                    case hw92 => rfl
                    case hq92 => exact fun _ _ _ h => h
                    simp only [List.set_cons_succ, List.set_cons_zero]
                    refine take_at (i := 7) (d := 54) (oi := ?o93) (v := ?v93) ?hi93 ?hd93 (by kernel_rfl) (by kernel_rfl) (by kernel_rfl) ?hw93 ?hy93 ?hq93 (by assumption) ?r93
                    case hi93 => (simp only [List.getElem?_toArray, List.getElem?_cons_succ, List.getElem?_cons_zero]; rfl)
                    case hd93 => rfl
                    case hw93 => rfl
                    case hy93 => ((intro w hSw; (try dsimp only at hSw); go_simp) <;> (with_reducible rfl))
                    case hq93 => exact fun _ _ _ h => h
                    simp only [List.set_cons_succ, List.set_cons_zero]
                    refine take_at (i := 8) (d := 2) (oi := ?o94) (v := ?v94) ?hi94 ?hd94 (by kernel_rfl) (by kernel_rfl) (by kernel_rfl) ?hw94 ?hy94 ?hq94 (by assumption) ?r94
                    case hi94 => (simp only [List.getElem?_toArray, List.getElem?_cons_succ, List.getElem?_cons_zero]; rfl)
                    case hd94 => rfl
                    case hw94 => rfl
                    case hy94 => ((intro w hSw; (try dsimp only at hSw); go_simp) <;> (with_reducible rfl))
                    case hq94 => exact fun _ _ _ h => h
                    simp only [List.set_cons_succ, List.set_cons_zero]
                    refine wpAnyH_done (by kernel_rfl) ?_ _
                    go_wp2_with fail
                    go_ret
                    exact ⟨ret_bool (by rw [Hk.out]; simp only [Hh1.out, Hh2.out, Hh3.out, Hh4.out, Hh5.out, Hh6.out, Hh7.out, Hh8.out, h9]; rfl), hB.out.trans (hHeld.mono hB.out.size)⟩
              | true =>
                go_enter Try.func37, Try.ntmps37
                go_wp2_with (go_at_call 61; refine (number_any _ _).mono ?_; rintro e w' ⟨rfl, rfl⟩)
                go_ret
                exact ⟨ret_bool (by rw [Hk.out]; simp only [h1, h2, h3, h4, h5, h6, h7]; rfl), below_al (below_d0 w) _⟩
          | true =>
            go_enter Try.func37, Try.ntmps37
            go_wp2_with (go_at_call 61; refine (number_any _ _).mono ?_; rintro e w' ⟨rfl, rfl⟩)
            go_ret
            exact ⟨ret_bool (by rw [Hk.out]; simp only [h1, h2, h3, h4, h5]; rfl), below_al (below_d0 w) _⟩
        | true =>
          cases h5 : (s.ix == 0) with
          | false =>
            go_enter Try.func37, Try.ntmps37
            go_wp2_with (go_at_call 61; refine (number_any _ _).mono ?_; rintro e w' ⟨rfl, rfl⟩)
            go_ret
            exact ⟨ret_bool (by rw [Hk.out]; simp only [h1, h2, h3, h4, h5]; rfl), below_al (below_d0 w) _⟩
          | true =>
            cases h6 : (s.lv != 1) with
            | false =>
              cases h7 : (s.lv != 2) with
              | false =>
                cases h8 : s.fn with
                | false =>
                  cases h9 : decide (0 < s.ix) with
                  | false =>
                    go_enter Try.func37, Try.ntmps37
                    go_wp2_with (go_at_call 61; refine (number_any _ _).mono ?_; rintro e w' ⟨rfl, rfl⟩)
                    obtain ⟨z, hz⟩ : ∃ z, z = w.heap.size := ⟨_, rfl⟩
                    rw [← hz]
                    generalize hw0 : w.alloc _ = w0
                    have x0 : BoxS w0 z s := by rw [← hw0, hz]; first | exact BoxS.new w s | (have h := BoxS.new w s; rw [h8] at h; exact h)
                    have hB := Lib.hid (show Below w.heap.size w w0 by rw [← hw0]; exact below_al (below_d0 w) _)
                    have X0 := Lib.hid (show ∀ W, Below w0.heap.size w0 W → BoxS W z s from fun W hW => x0.below hW)
                    clear hw0 hz x0
                    have Hh1 := Lib.hid h1
                    have Hh2 := Lib.hid h2
                    have Hh3 := Lib.hid h3
                    have Hh4 := Lib.hid h4
                    have Hh5 := Lib.hid h5
                    have Hh6 := Lib.hid h6
                    have Hh7 := Lib.hid h7
                    have Hh8 := Lib.hid h8
                    clear h1 h2 h3 h4 h5 h6 h7 h8
                    refine wp_region_held_drew (S := (fun W => Below w0.heap.size w0 W)) (by kernel_rfl) (below_dr (below_d0 _)) (fun hHeld => ?_)
                    refine take_at (i := 0) (d := 47) (oi := ?o95) (v := ?v95) ?hi95 ?hd95 (by kernel_rfl) (by kernel_rfl) (by kernel_rfl) ?hw95 ?hy95 ?hq95 (by assumption) ?r95
                    case hi95 => (simp only [List.getElem?_toArray, List.getElem?_cons_zero]; rfl)
                    case hd95 => rfl
                    case hw95 => rfl
                    case hy95 => ((intro w hSw; (try dsimp only at hSw); go_simp) <;> (with_reducible rfl))
                    case hq95 => exact fun _ _ _ h => h
                    simp only [List.set_cons_succ, List.set_cons_zero]
                    refine take_at (i := 1) (d := 48) (oi := ?o96) (v := ?v96) ?hi96 ?hd96 (by kernel_rfl) (by kernel_rfl) (by kernel_rfl) ?hw96 ?hy96 ?hq96 (by assumption) ?r96
                    case hi96 => (simp only [List.getElem?_toArray, List.getElem?_cons_succ, List.getElem?_cons_zero]; rfl)
                    case hd96 => rfl
                    case hw96 => rfl
                    case hy96 => ((intro w hSw; (try dsimp only at hSw); obtain ⟨k0, k1, k2, k3, k4⟩ := (X0.out _ hSw).cells; go_simp) <;> (with_reducible rfl))
                    case hq96 => exact fun _ _ _ h => h
                    simp only [List.set_cons_succ, List.set_cons_zero]
                    refine take_at (i := 2) (d := 49) (oi := ?o97) (v := ?v97) ?hi97 ?hd97 (by kernel_rfl) (by kernel_rfl) (by kernel_rfl) ?hw97 ?hy97 ?hq97 (by assumption) ?r97
                    case hi97 => (simp only [List.getElem?_toArray, List.getElem?_cons_succ, List.getElem?_cons_zero]; rfl)
                    case hd97 => rfl
                    case hw97 => rfl
                    case hy97 => ((intro w hSw; (try dsimp only at hSw); go_simp) <;> (with_reducible rfl))
                    case hq97 => exact fun _ _ _ h => h
                    simp only [List.set_cons_succ, List.set_cons_zero]
                    refine take_at (i := 3) (d := 50) (oi := ?o98) (v := ?v98) ?hi98 ?hd98 (by kernel_rfl) (by kernel_rfl) (by kernel_rfl) ?hw98 ?hy98 ?hq98 (by assumption) ?r98
                    case hi98 => (simp only [List.getElem?_toArray, List.getElem?_cons_succ, List.getElem?_cons_zero]; rfl)
                    case hd98 => rfl
                    case hw98 => rfl
                    case hy98 => ((intro w hSw; (try dsimp only at hSw); go_simp) <;> (with_reducible rfl))
                    case hq98 => exact fun _ _ _ h => h
                    simp only [List.set_cons_succ, List.set_cons_zero]
                    refine take_at (i := 4) (d := 51) (oi := ?o99) (v := ?v99) ?hi99 ?hd99 (by kernel_rfl) (by kernel_rfl) (by kernel_rfl) ?hw99 ?hy99 ?hq99 (by assumption) ?r99
                    case hi99 => (simp only [List.getElem?_toArray, List.getElem?_cons_succ, List.getElem?_cons_zero]; rfl)
                    case hd99 => rfl
                    case hw99 => rfl
                    case hy99 => ((intro w hSw; (try dsimp only at hSw); obtain ⟨k0, k1, k2, k3, k4⟩ := (X0.out _ hSw).cells; go_simp) <;> (with_reducible rfl))
                    case hq99 => exact fun _ _ _ h => h
                    simp only [List.set_cons_succ, List.set_cons_zero]
                    refine call_at (i := 5) (d := 52) (oi := ?o100) (f := ?f100) (args := ?a100) ?hi100 ?hd100 (by kernel_rfl) ?hw100 ?he100 ?hc100
                    case hi100 => (simp only [List.getElem?_toArray, List.getElem?_cons_succ, List.getElem?_cons_zero]; rfl)
                    case hd100 => rfl
                    case hw100 => rfl
                    case he100 => (go_simp; constructor <;> with_reducible rfl)
                    refine Calls.mono (rfirst_any _) ?_
                    rintro e w1 ⟨rfl, hb1⟩
                    have kb : Below w0.heap.size w0 w1 := hHeld.trans (hb1.mono hHeld.size)
                    unfold firstP StP.v
                    dsimp only
                    refine ⟨_, rfl, kb, fun hHeld => ?_⟩
                    simp only [List.set_cons_succ, List.set_cons_zero]
                    refine take_at (i := 6) (d := 53) (oi := ?o101) (v := ?v101) ?hi101 ?hd101 (by kernel_rfl) (by kernel_rfl) (by kernel_rfl) ?hw101 ?hy101 ?hq101 (by assumption) ?r101
                    case hi101 => (simp only [List.getElem?_toArray, List.getElem?_cons_succ, List.getElem?_cons_zero]; rfl)
                    case hd101 => rfl
                    case hw101 => rfl
                    case hy101 => ((intro w hSw; (try dsimp only at hSw); go_simp) <;> (with_reducible rfl))
                    case hq101 => exact fun _ _ _ h => h
                    simp only [List.set_cons_succ, List.set_cons_zero]
                    refine take_at (i := 7) (d := 54) (oi := ?o102) (v := ?v102) ?hi102 ?hd102 (by kernel_rfl) (by kernel_rfl) (by kernel_rfl) ?hw102 ?hy102 ?hq102 (by assumption) ?r102
                    case hi102 => (simp only [List.getElem?_toArray, List.getElem?_cons_succ, List.getElem?_cons_zero]; rfl)
                    case hd102 => rfl
                    case hw102 => rfl
                    case hy102 => ((intro w hSw; (try dsimp only at hSw); go_simp) <;> (with_reducible rfl))
                    case hq102 => exact fun _ _ _ h => h
                    simp only [List.set_cons_succ, List.set_cons_zero]
                    refine take_at (i := 8) (d := 2) (oi := ?o103) (v := ?v103) ?hi103 ?hd103 (by kernel_rfl) (by kernel_rfl) (by kernel_rfl) ?hw103 ?hy103 ?hq103 (by assumption) ?r103
                    case hi103 => (simp only [List.getElem?_toArray, List.getElem?_cons_succ, List.getElem?_cons_zero]; rfl)
                    case hd103 => rfl
                    case hw103 => rfl
                    case hy103 => ((intro w hSw; (try dsimp only at hSw); go_simp) <;> (with_reducible rfl))
                    case hq103 => exact fun _ _ _ h => h
                    simp only [List.set_cons_succ, List.set_cons_zero]
                    refine wpAnyH_done (by kernel_rfl) ?_ _
                    go_wp2_with fail
                    go_ret
                    exact ⟨ret_bool (by rw [Hk.out]; simp only [Hh1.out, Hh2.out, Hh3.out, Hh4.out, Hh5.out, Hh6.out, Hh7.out, Hh8.out, h9]; rfl), hB.out.trans (hHeld.mono hB.out.size)⟩
                  | true =>
                    go_enter Try.func37, Try.ntmps37
                    go_wp2_with (go_at_call 61; refine (number_any _ _).mono ?_; rintro e w' ⟨rfl, rfl⟩)
                    obtain ⟨z, hz⟩ : ∃ z, z = w.heap.size := ⟨_, rfl⟩
                    rw [← hz]
                    generalize hw0 : w.alloc _ = w0
                    have x0 : BoxS w0 z s := by rw [← hw0, hz]; first | exact BoxS.new w s | (have h := BoxS.new w s; rw [h8] at h; exact h)
                    have hB := Lib.hid (show Below w.heap.size w w0 by rw [← hw0]; exact below_al (below_d0 w) _)
                    have X0 := Lib.hid (show ∀ W, Below w0.heap.size w0 W → BoxS W z s from fun W hW => x0.below hW)
                    clear hw0 hz x0
                    have Hh1 := Lib.hid h1
                    have Hh2 := Lib.hid h2
                    have Hh3 := Lib.hid h3
                    have Hh4 := Lib.hid h4
                    have Hh5 := Lib.hid h5
                    have Hh6 := Lib.hid h6
                    have Hh7 := Lib.hid h7
                    have Hh8 := Lib.hid h8
                    clear h1 h2 h3 h4 h5 h6 h7 h8
                    refine wp_region_held_drew (S := (fun W => Below w0.heap.size w0 W)) (by kernel_rfl) (below_dr (below_d0 _)) (fun hHeld => ?_)
                    refine take_at (i := 0) (d := 47) (oi := ?o104) (v := ?v104) ?hi104 ?hd104 (by kernel_rfl) (by kernel_rfl) (by kernel_rfl) ?hw104 ?hy104 ?hq104 (by assumption) ?r104
                    case hi104 => (simp only [List.getElem?_toArray, List.getElem?_cons_zero]; rfl)
                    case hd104 => rfl
                    case hw104 => rfl
                    case hy104 => ((intro w hSw; (try dsimp only at hSw); go_simp) <;> (with_reducible rfl))
                    case hq104 => exact fun _ _ _ h => h
                    simp only [List.set_cons_succ, List.set_cons_zero]
                    refine take_at (i := 1) (d := 48) (oi := ?o105) (v := ?v105) ?hi105 ?hd105 (by kernel_rfl) (by kernel_rfl) (by kernel_rfl) ?hw105 ?hy105 ?hq105 (by assumption) ?r105
                    case hi105 => (simp only [List.getElem?_toArray, List.getElem?_cons_succ, List.getElem?_cons_zero]; rfl)
                    case hd105 => rfl
                    case hw105 => rfl
                    case hy105 => ((intro w hSw; (try dsimp only at hSw); obtain ⟨k0, k1, k2, k3, k4⟩ := (X0.out _ hSw).cells; go_simp) <;> (with_reducible rfl))
                    case hq105 => exact fun _ _ _ h => h
                    simp only [List.set_cons_succ, List.set_cons_zero]
                    refine take_at (i := 2) (d := 49) (oi := ?o106) (v := ?v106) ?hi106 ?hd106 (by kernel_rfl) (by kernel_rfl) (by kernel_rfl) ?hw106 ?hy106 ?hq106 (by assumption) ?r106
                    case hi106 => (simp only [List.getElem?_toArray, List.getElem?_cons_succ, List.getElem?_cons_zero]; rfl)
                    case hd106 => rfl
                    case hw106 => rfl
                    case hy106 => ((intro w hSw; (try dsimp only at hSw); go_simp) <;> (with_reducible rfl))
                    case hq106 => exact fun _ _ _ h => h
                    simp only [List.set_cons_succ, List.set_cons_zero]
                    refine take_at (i := 3) (d := 50) (oi := ?o107) (v := ?v107) ?hi107 ?hd107 (by kernel_rfl) (by kernel_rfl) (by kernel_rfl) ?hw107 ?hy107 ?hq107 (by assumption) ?r107
                    case hi107 => (simp only [List.getElem?_toArray, List.getElem?_cons_succ, List.getElem?_cons_zero]; rfl)
                    case hd107 => rfl
                    case hw107 => rfl
                    case hy107 => ((intro w hSw; (try dsimp only at hSw); go_simp) <;> (with_reducible rfl))
                    case hq107 => exact fun _ _ _ h => h
                    simp only [List.set_cons_succ, List.set_cons_zero]
                    refine skip_at (i := 4) (d := 51) (oi := ?o108) ?hi108 ?hd108 (by kernel_rfl) (by kernel_rfl) (by kernel_rfl) ?hw108 ?hq108 (by assumption) ?r108
                    case hi108 => (simp only [List.getElem?_toArray, List.getElem?_cons_succ, List.getElem?_cons_zero]; rfl)
                    case hd108 => rfl
                    case hw108 => rfl
                    case hq108 => exact fun _ _ _ h => h
                    simp only [List.set_cons_succ, List.set_cons_zero]
                    refine skip_at (i := 5) (d := 52) (oi := ?o109) ?hi109 ?hd109 (by kernel_rfl) (by kernel_rfl) (by kernel_rfl) ?hw109 ?hq109 (by assumption) ?r109
                    case hi109 => (simp only [List.getElem?_toArray, List.getElem?_cons_succ, List.getElem?_cons_zero]; rfl)
                    case hd109 => rfl
                    case hw109 => rfl
                    case hq109 => exact fun _ _ _ h => h
                    simp only [List.set_cons_succ, List.set_cons_zero]
                    refine skip_at (i := 6) (d := 53) (oi := ?o110) ?hi110 ?hd110 (by kernel_rfl) (by kernel_rfl) (by kernel_rfl) ?hw110 ?hq110 (by assumption) ?r110
                    case hi110 => (simp only [List.getElem?_toArray, List.getElem?_cons_succ, List.getElem?_cons_zero]; rfl)
                    case hd110 => rfl
                    case hw110 => rfl
                    case hq110 => exact fun _ _ _ h => h
                    simp only [List.set_cons_succ, List.set_cons_zero]
                    refine take_at (i := 7) (d := 54) (oi := ?o111) (v := ?v111) ?hi111 ?hd111 (by kernel_rfl) (by kernel_rfl) (by kernel_rfl) ?hw111 ?hy111 ?hq111 (by assumption) ?r111
                    case hi111 => (simp only [List.getElem?_toArray, List.getElem?_cons_succ, List.getElem?_cons_zero]; rfl)
                    case hd111 => rfl
                    case hw111 => rfl
                    case hy111 => ((intro w hSw; (try dsimp only at hSw); go_simp) <;> (with_reducible rfl))
                    case hq111 => exact fun _ _ _ h => h
                    simp only [List.set_cons_succ, List.set_cons_zero]
                    refine take_at (i := 8) (d := 2) (oi := ?o112) (v := ?v112) ?hi112 ?hd112 (by kernel_rfl) (by kernel_rfl) (by kernel_rfl) ?hw112 ?hy112 ?hq112 (by assumption) ?r112
                    case hi112 => (simp only [List.getElem?_toArray, List.getElem?_cons_succ, List.getElem?_cons_zero]; rfl)
                    case hd112 => rfl
                    case hw112 => rfl
                    case hy112 => ((intro w hSw; (try dsimp only at hSw); go_simp) <;> (with_reducible rfl))
                    case hq112 => exact fun _ _ _ h => h
                    simp only [List.set_cons_succ, List.set_cons_zero]
                    refine wpAnyH_done (by kernel_rfl) ?_ _
                    go_wp2_with fail
                    go_ret
                    exact ⟨ret_bool (by rw [Hk.out]; simp only [Hh1.out, Hh2.out, Hh3.out, Hh4.out, Hh5.out, Hh6.out, Hh7.out, Hh8.out, h9]; rfl), hB.out.trans (hHeld.mono hB.out.size)⟩
                | true =>
                  cases h9 : decide (0 < s.ix) with
                  | false =>
                    go_enter Try.func37, Try.ntmps37
                    go_wp2_with (go_at_call 61; refine (number_any _ _).mono ?_; rintro e w' ⟨rfl, rfl⟩)
                    obtain ⟨z, hz⟩ : ∃ z, z = w.heap.size := ⟨_, rfl⟩
                    rw [← hz]
                    generalize hw0 : w.alloc _ = w0
                    have x0 : BoxS w0 z s := by rw [← hw0, hz]; first | exact BoxS.new w s | (have h := BoxS.new w s; rw [h8] at h; exact h)
                    have hB := Lib.hid (show Below w.heap.size w w0 by rw [← hw0]; exact below_al (below_d0 w) _)
                    have X0 := Lib.hid (show ∀ W, Below w0.heap.size w0 W → BoxS W z s from fun W hW => x0.below hW)
                    clear hw0 hz x0
                    have Hh1 := Lib.hid h1
                    have Hh2 := Lib.hid h2
                    have Hh3 := Lib.hid h3
                    have Hh4 := Lib.hid h4
                    have Hh5 := Lib.hid h5
                    have Hh6 := Lib.hid h6
                    have Hh7 := Lib.hid h7
                    have Hh8 := Lib.hid h8
                    clear h1 h2 h3 h4 h5 h6 h7 h8
                    refine wp_region_held_drew (S := (fun W => Below w0.heap.size w0 W)) (by kernel_rfl) (below_dr (below_d0 _)) (fun hHeld => ?_)
                    refine take_at (i := 0) (d := 47) (oi := ?o113) (v := ?v113) ?hi113 ?hd113 (by kernel_rfl) (by kernel_rfl) (by kernel_rfl) ?hw113 ?hy113 ?hq113 (by assumption) ?r113
                    case hi113 => (simp only [List.getElem?_toArray, List.getElem?_cons_zero]; rfl)
                    case hd113 => rfl
                    case hw113 => rfl
                    case hy113 => ((intro w hSw; (try dsimp only at hSw); go_simp) <;> (with_reducible rfl))
                    case hq113 => exact fun _ _ _ h => h
                    simp only [List.set_cons_succ, List.set_cons_zero]
                    refine take_at (i := 1) (d := 48) (oi := ?o114) (v := ?v114) ?hi114 ?hd114 (by kernel_rfl) (by kernel_rfl) (by kernel_rfl) ?hw114 ?hy114 ?hq114 (by assumption) ?r114
                    case hi114 => (simp only [List.getElem?_toArray, List.getElem?_cons_succ, List.getElem?_cons_zero]; rfl)
                    case hd114 => rfl
                    case hw114 => rfl
                    case hy114 => ((intro w hSw; (try dsimp only at hSw); obtain ⟨k0, k1, k2, k3, k4⟩ := (X0.out _ hSw).cells; go_simp) <;> (with_reducible rfl))
                    case hq114 => exact fun _ _ _ h => h
                    simp only [List.set_cons_succ, List.set_cons_zero]
                    refine take_at (i := 2) (d := 49) (oi := ?o115) (v := ?v115) ?hi115 ?hd115 (by kernel_rfl) (by kernel_rfl) (by kernel_rfl) ?hw115 ?hy115 ?hq115 (by assumption) ?r115
                    case hi115 => (simp only [List.getElem?_toArray, List.getElem?_cons_succ, List.getElem?_cons_zero]; rfl)
                    case hd115 => rfl
                    case hw115 => rfl
                    case hy115 => ((intro w hSw; (try dsimp only at hSw); go_simp) <;> (with_reducible rfl))
                    case hq115 => exact fun _ _ _ h => h
                    simp only [List.set_cons_succ, List.set_cons_zero]
                    refine take_at (i := 3) (d := 50) (oi := ?o116) (v := ?v116) ?hi116 ?hd116 (by kernel_rfl) (by kernel_rfl) (by kernel_rfl) ?hw116 ?hy116 ?hq116 (by assumption) ?r116
                    case hi116 => (simp only [List.getElem?_toArray, List.getElem?_cons_succ, List.getElem?_cons_zero]; rfl)
                    case hd116 => rfl
                    case hw116 => rfl
                    case hy116 => ((intro w hSw; (try dsimp only at hSw); go_simp) <;> (with_reducible rfl))
                    case hq116 => exact fun _ _ _ h => h
                    simp only [List.set_cons_succ, List.set_cons_zero]
                    refine take_at (i := 4) (d := 51) (oi := ?o117) (v := ?v117) ?hi117 ?hd117 (by kernel_rfl) (by kernel_rfl) (by kernel_rfl) ?hw117 ?hy117 ?hq117 (by assumption) ?r117
                    case hi117 => (simp only [List.getElem?_toArray, List.getElem?_cons_succ, List.getElem?_cons_zero]; rfl)
                    case hd117 => rfl
                    case hw117 => rfl
                    case hy117 => ((intro w hSw; (try dsimp only at hSw); obtain ⟨k0, k1, k2, k3, k4⟩ := (X0.out _ hSw).cells; go_simp) <;> (with_reducible rfl))
                    case hq117 => exact fun _ _ _ h => h
                    simp only [List.set_cons_succ, List.set_cons_zero]
                    refine call_at (i := 5) (d := 52) (oi := ?o118) (f := ?f118) (args := ?a118) ?hi118 ?hd118 (by kernel_rfl) ?hw118 ?he118 ?hc118
                    case hi118 => (simp only [List.getElem?_toArray, List.getElem?_cons_succ, List.getElem?_cons_zero]; rfl)
                    case hd118 => rfl
                    case hw118 => rfl
                    case he118 => (go_simp; constructor <;> with_reducible rfl)
                    refine Calls.mono (rfirst_any _) ?_
                    rintro e w1 ⟨rfl, hb1⟩
                    have kb : Below w0.heap.size w0 w1 := hHeld.trans (hb1.mono hHeld.size)
                    unfold firstP StP.v
                    dsimp only
                    refine ⟨_, rfl, kb, fun hHeld => ?_⟩
                    simp only [List.set_cons_succ, List.set_cons_zero]
                    refine take_at (i := 6) (d := 53) (oi := ?o119) (v := ?v119) ?hi119 ?hd119 (by kernel_rfl) (by kernel_rfl) (by kernel_rfl) ?hw119 ?hy119 ?hq119 (by assumption) ?r119
                    case hi119 => (simp only [List.getElem?_toArray, List.getElem?_cons_succ, List.getElem?_cons_zero]; rfl)
                    case hd119 => rfl
                    case hw119 => rfl
                    case hy119 => ((intro w hSw; (try dsimp only at hSw); go_simp) <;> (with_reducible rfl))
                    case hq119 => exact fun _ _ _ h => h
                    simp only [List.set_cons_succ, List.set_cons_zero]
                    refine take_at (i := 7) (d := 54) (oi := ?o120) (v := ?v120) ?hi120 ?hd120 (by kernel_rfl) (by kernel_rfl) (by kernel_rfl) ?hw120 ?hy120 ?hq120 (by assumption) ?r120
                    case hi120 => (simp only [List.getElem?_toArray, List.getElem?_cons_succ, List.getElem?_cons_zero]; rfl)
                    case hd120 => rfl
                    case hw120 => rfl
                    case hy120 => ((intro w hSw; (try dsimp only at hSw); go_simp) <;> (with_reducible rfl))
                    case hq120 => exact fun _ _ _ h => h
                    simp only [List.set_cons_succ, List.set_cons_zero]
                    refine take_at (i := 8) (d := 2) (oi := ?o121) (v := ?v121) ?hi121 ?hd121 (by kernel_rfl) (by kernel_rfl) (by kernel_rfl) ?hw121 ?hy121 ?hq121 (by assumption) ?r121
                    case hi121 => (simp only [List.getElem?_toArray, List.getElem?_cons_succ, List.getElem?_cons_zero]; rfl)
                    case hd121 => rfl
                    case hw121 => rfl
                    case hy121 => ((intro w hSw; (try dsimp only at hSw); go_simp) <;> (with_reducible rfl))
                    case hq121 => exact fun _ _ _ h => h
                    simp only [List.set_cons_succ, List.set_cons_zero]
                    refine wpAnyH_done (by kernel_rfl) ?_ _
                    go_wp2_with fail
                    go_ret
                    exact ⟨ret_bool (by rw [Hk.out]; simp only [Hh1.out, Hh2.out, Hh3.out, Hh4.out, Hh5.out, Hh6.out, Hh7.out, Hh8.out, h9]; rfl), hB.out.trans (hHeld.mono hB.out.size)⟩
                  | true =>
                    go_enter Try.func37, Try.ntmps37
                    go_wp2_with (go_at_call 61; refine (number_any _ _).mono ?_; rintro e w' ⟨rfl, rfl⟩)
                    obtain ⟨z, hz⟩ : ∃ z, z = w.heap.size := ⟨_, rfl⟩
                    rw [← hz]
                    generalize hw0 : w.alloc _ = w0
                    have x0 : BoxS w0 z s := by rw [← hw0, hz]; first | exact BoxS.new w s | (have h := BoxS.new w s; rw [h8] at h; exact h)
                    have hB := Lib.hid (show Below w.heap.size w w0 by rw [← hw0]; exact below_al (below_d0 w) _)
                    have X0 := Lib.hid (show ∀ W, Below w0.heap.size w0 W → BoxS W z s from fun W hW => x0.below hW)
                    clear hw0 hz x0
                    have Hh1 := Lib.hid h1
                    have Hh2 := Lib.hid h2
                    have Hh3 := Lib.hid h3
                    have Hh4 := Lib.hid h4
                    have Hh5 := Lib.hid h5
                    have Hh6 := Lib.hid h6
                    have Hh7 := Lib.hid h7
                    have Hh8 := Lib.hid h8
                    clear h1 h2 h3 h4 h5 h6 h7 h8
                    refine wp_region_held_drew (S := (fun W => Below w0.heap.size w0 W)) (by kernel_rfl) (below_dr (below_d0 _)) (fun hHeld => ?_)
                    refine take_at (i := 0) (d := 47) (oi := ?o122) (v := ?v122) ?hi122 ?hd122 (by kernel_rfl) (by kernel_rfl) (by kernel_rfl) ?hw122 ?hy122 ?hq122 (by assumption) ?r122
                    case hi122 => (simp only [List.getElem?_toArray, List.getElem?_cons_zero]; rfl)
                    case hd122 => rfl
                    case hw122 => rfl
                    case hy122 => ((intro w hSw; (try dsimp only at hSw); go_simp) <;> (with_reducible rfl))
                    case hq122 => exact fun _ _ _ h => h
                    simp only [List.set_cons_succ, List.set_cons_zero]
                    refine take_at (i := 1) (d := 48) (oi := ?o123) (v := ?v123) ?hi123 ?hd123 (by kernel_rfl) (by kernel_rfl) (by kernel_rfl) ?hw123 ?hy123 ?hq123 (by assumption) ?r123
                    case hi123 => (simp only [List.getElem?_toArray, List.getElem?_cons_succ, List.getElem?_cons_zero]; rfl)
                    case hd123 => rfl
                    case hw123 => rfl
                    case hy123 => ((intro w hSw; (try dsimp only at hSw); obtain ⟨k0, k1, k2, k3, k4⟩ := (X0.out _ hSw).cells; go_simp) <;> (with_reducible rfl))
                    case hq123 => exact fun _ _ _ h => h
                    simp only [List.set_cons_succ, List.set_cons_zero]
                    refine take_at (i := 2) (d := 49) (oi := ?o124) (v := ?v124) ?hi124 ?hd124 (by kernel_rfl) (by kernel_rfl) (by kernel_rfl) ?hw124 ?hy124 ?hq124 (by assumption) ?r124
                    case hi124 => (simp only [List.getElem?_toArray, List.getElem?_cons_succ, List.getElem?_cons_zero]; rfl)
                    case hd124 => rfl
                    case hw124 => rfl
                    case hy124 => ((intro w hSw; (try dsimp only at hSw); go_simp) <;> (with_reducible rfl))
                    case hq124 => exact fun _ _ _ h => h
                    simp only [List.set_cons_succ, List.set_cons_zero]
                    refine take_at (i := 3) (d := 50) (oi := ?o125) (v := ?v125) ?hi125 ?hd125 (by kernel_rfl) (by kernel_rfl) (by kernel_rfl) ?hw125 ?hy125 ?hq125 (by assumption) ?r125
                    case hi125 => (simp only [List.getElem?_toArray, List.getElem?_cons_succ, List.getElem?_cons_zero]; rfl)
                    case hd125 => rfl
                    case hw125 => rfl
                    case hy125 => ((intro w hSw; (try dsimp only at hSw); go_simp) <;> (with_reducible rfl))
                    case hq125 => exact fun _ _ _ h => h
                    simp only [List.set_cons_succ, List.set_cons_zero]
                    refine skip_at (i := 4) (d := 51) (oi := ?o126) ?hi126 ?hd126 (by kernel_rfl) (by kernel_rfl) (by kernel_rfl) ?hw126 ?hq126 (by assumption) ?r126
                    case hi126 => (simp only [List.getElem?_toArray, List.getElem?_cons_succ, List.getElem?_cons_zero]; rfl)
                    case hd126 => rfl
                    case hw126 => rfl
                    case hq126 => exact fun _ _ _ h => h
                    simp only [List.set_cons_succ, List.set_cons_zero]
                    refine skip_at (i := 5) (d := 52) (oi := ?o127) ?hi127 ?hd127 (by kernel_rfl) (by kernel_rfl) (by kernel_rfl) ?hw127 ?hq127 (by assumption) ?r127
                    case hi127 => (simp only [List.getElem?_toArray, List.getElem?_cons_succ, List.getElem?_cons_zero]; rfl)
                    case hd127 => rfl
                    case hw127 => rfl
                    case hq127 => exact fun _ _ _ h => h
                    simp only [List.set_cons_succ, List.set_cons_zero]
                    refine skip_at (i := 6) (d := 53) (oi := ?o128) ?hi128 ?hd128 (by kernel_rfl) (by kernel_rfl) (by kernel_rfl) ?hw128 ?hq128 (by assumption) ?r128
                    case hi128 => (simp only [List.getElem?_toArray, List.getElem?_cons_succ, List.getElem?_cons_zero]; rfl)
                    case hd128 => rfl
                    case hw128 => rfl
                    case hq128 => exact fun _ _ _ h => h
                    simp only [List.set_cons_succ, List.set_cons_zero]
                    refine take_at (i := 7) (d := 54) (oi := ?o129) (v := ?v129) ?hi129 ?hd129 (by kernel_rfl) (by kernel_rfl) (by kernel_rfl) ?hw129 ?hy129 ?hq129 (by assumption) ?r129
                    case hi129 => (simp only [List.getElem?_toArray, List.getElem?_cons_succ, List.getElem?_cons_zero]; rfl)
                    case hd129 => rfl
                    case hw129 => rfl
                    case hy129 => ((intro w hSw; (try dsimp only at hSw); go_simp) <;> (with_reducible rfl))
                    case hq129 => exact fun _ _ _ h => h
                    simp only [List.set_cons_succ, List.set_cons_zero]
                    refine take_at (i := 8) (d := 2) (oi := ?o130) (v := ?v130) ?hi130 ?hd130 (by kernel_rfl) (by kernel_rfl) (by kernel_rfl) ?hw130 ?hy130 ?hq130 (by assumption) ?r130
                    case hi130 => (simp only [List.getElem?_toArray, List.getElem?_cons_succ, List.getElem?_cons_zero]; rfl)
                    case hd130 => rfl
                    case hw130 => rfl
                    case hy130 => ((intro w hSw; (try dsimp only at hSw); go_simp) <;> (with_reducible rfl))
                    case hq130 => exact fun _ _ _ h => h
                    simp only [List.set_cons_succ, List.set_cons_zero]
                    refine wpAnyH_done (by kernel_rfl) ?_ _
                    go_wp2_with fail
                    go_ret
                    exact ⟨ret_bool (by rw [Hk.out]; simp only [Hh1.out, Hh2.out, Hh3.out, Hh4.out, Hh5.out, Hh6.out, Hh7.out, Hh8.out, h9]; rfl), hB.out.trans (hHeld.mono hB.out.size)⟩
              | true =>
                cases h8 : s.fn with
                | false =>
                  cases h9 : decide (0 < s.ix) with
                  | false =>
                    go_enter Try.func37, Try.ntmps37
                    go_wp2_with (go_at_call 61; refine (number_any _ _).mono ?_; rintro e w' ⟨rfl, rfl⟩)
                    obtain ⟨z, hz⟩ : ∃ z, z = w.heap.size := ⟨_, rfl⟩
                    rw [← hz]
                    generalize hw0 : w.alloc _ = w0
                    have x0 : BoxS w0 z s := by rw [← hw0, hz]; first | exact BoxS.new w s | (have h := BoxS.new w s; rw [h8] at h; exact h)
                    have hB := Lib.hid (show Below w.heap.size w w0 by rw [← hw0]; exact below_al (below_d0 w) _)
                    have X0 := Lib.hid (show ∀ W, Below w0.heap.size w0 W → BoxS W z s from fun W hW => x0.below hW)
                    clear hw0 hz x0
                    have Hh1 := Lib.hid h1
                    have Hh2 := Lib.hid h2
                    have Hh3 := Lib.hid h3
                    have Hh4 := Lib.hid h4
                    have Hh5 := Lib.hid h5
                    have Hh6 := Lib.hid h6
                    have Hh7 := Lib.hid h7
                    have Hh8 := Lib.hid h8
                    clear h1 h2 h3 h4 h5 h6 h7 h8
                    refine wp_region_held_drew (S := (fun W => Below w0.heap.size w0 W)) (by kernel_rfl) (below_dr (below_d0 _)) (fun hHeld => ?_)
                    refine take_at (i := 0) (d := 47) (oi := ?o131) (v := ?v131) ?hi131 ?hd131 (by kernel_rfl) (by kernel_rfl) (by kernel_rfl) ?hw131 ?hy131 ?hq131 (by assumption) ?r131
                    case hi131 => (simp only [List.getElem?_toArray, List.getElem?_cons_zero]; rfl)
                    case hd131 => rfl
                    case hw131 => rfl
                    case hy131 => ((intro w hSw; (try dsimp only at hSw); go_simp) <;> (with_reducible rfl))
                    case hq131 => exact fun _ _ _ h => h
                    simp only [List.set_cons_succ, List.set_cons_zero]
                    refine take_at (i := 1) (d := 48) (oi := ?o132) (v := ?v132) ?hi132 ?hd132 (by kernel_rfl) (by kernel_rfl) (by kernel_rfl) ?hw132 ?hy132 ?hq132 (by assumption) ?r132
                    case hi132 => (simp only [List.getElem?_toArray, List.getElem?_cons_succ, List.getElem?_cons_zero]; rfl)
                    case hd132 => rfl
                    case hw132 => rfl
                    case hy132 => ((intro w hSw; (try dsimp only at hSw); obtain ⟨k0, k1, k2, k3, k4⟩ := (X0.out _ hSw).cells; go_simp) <;> (with_reducible rfl))
                    case hq132 => exact fun _ _ _ h => h
                    simp only [List.set_cons_succ, List.set_cons_zero]
                    refine take_at (i := 2) (d := 49) (oi := ?o133) (v := ?v133) ?hi133 ?hd133 (by kernel_rfl) (by kernel_rfl) (by kernel_rfl) ?hw133 ?hy133 ?hq133 (by assumption) ?r133
                    case hi133 => (simp only [List.getElem?_toArray, List.getElem?_cons_succ, List.getElem?_cons_zero]; rfl)
                    case hd133 => rfl
                    case hw133 => rfl
                    case hy133 => ((intro w hSw; (try dsimp only at hSw); go_simp) <;> (with_reducible rfl))
                    case hq133 => exact fun _ _ _ h => h
                    simp only [List.set_cons_succ, List.set_cons_zero]
                    refine take_at (i := 3) (d := 50) (oi := ?o134) (v := ?v134) ?hi134 ?hd134 (by kernel_rfl) (by kernel_rfl) (by kernel_rfl) ?hw134 ?hy134 ?hq134 (by assumption) ?r134
                    case hi134 => (simp only [List.getElem?_toArray, List.getElem?_cons_succ, List.getElem?_cons_zero]; rfl)
                    case hd134 => rfl
                    case hw134 => rfl
                    case hy134 => ((intro w hSw; (try dsimp only at hSw); go_simp) <;> (with_reducible rfl))
                    case hq134 => exact fun _ _ _ h => h
                    simp only [List.set_cons_succ, List.set_cons_zero]
                    refine take_at (i := 4) (d := 51) (oi := ?o135) (v := ?v135) ?hi135 ?hd135 (by kernel_rfl) (by kernel_rfl) (by kernel_rfl) ?hw135 ?hy135 ?hq135 (by assumption) ?r135
                    case hi135 => (simp only [List.getElem?_toArray, List.getElem?_cons_succ, List.getElem?_cons_zero]; rfl)
                    case hd135 => rfl
                    case hw135 => rfl
                    case hy135 => ((intro w hSw; (try dsimp only at hSw); obtain ⟨k0, k1, k2, k3, k4⟩ := (X0.out _ hSw).cells; go_simp) <;> (with_reducible rfl))
                    case hq135 => exact fun _ _ _ h => h
                    simp only [List.set_cons_succ, List.set_cons_zero]
                    refine call_at (i := 5) (d := 52) (oi := ?o136) (f := ?f136) (args := ?a136) ?hi136 ?hd136 (by kernel_rfl) ?hw136 ?he136 ?hc136
                    case hi136 => (simp only [List.getElem?_toArray, List.getElem?_cons_succ, List.getElem?_cons_zero]; rfl)
                    case hd136 => rfl
                    case hw136 => rfl
                    case he136 => (go_simp; constructor <;> with_reducible rfl)
                    refine Calls.mono (rfirst_any _) ?_
                    rintro e w1 ⟨rfl, hb1⟩
                    have kb : Below w0.heap.size w0 w1 := hHeld.trans (hb1.mono hHeld.size)
                    unfold firstP StP.v
                    dsimp only
                    refine ⟨_, rfl, kb, fun hHeld => ?_⟩
                    simp only [List.set_cons_succ, List.set_cons_zero]
                    refine take_at (i := 6) (d := 53) (oi := ?o137) (v := ?v137) ?hi137 ?hd137 (by kernel_rfl) (by kernel_rfl) (by kernel_rfl) ?hw137 ?hy137 ?hq137 (by assumption) ?r137
                    case hi137 => (simp only [List.getElem?_toArray, List.getElem?_cons_succ, List.getElem?_cons_zero]; rfl)
                    case hd137 => rfl
                    case hw137 => rfl
                    case hy137 => ((intro w hSw; (try dsimp only at hSw); go_simp) <;> (with_reducible rfl))
                    case hq137 => exact fun _ _ _ h => h
                    simp only [List.set_cons_succ, List.set_cons_zero]
                    refine take_at (i := 7) (d := 54) (oi := ?o138) (v := ?v138) ?hi138 ?hd138 (by kernel_rfl) (by kernel_rfl) (by kernel_rfl) ?hw138 ?hy138 ?hq138 (by assumption) ?r138
                    case hi138 => (simp only [List.getElem?_toArray, List.getElem?_cons_succ, List.getElem?_cons_zero]; rfl)
                    case hd138 => rfl
                    case hw138 => rfl
                    case hy138 => ((intro w hSw; (try dsimp only at hSw); go_simp) <;> (with_reducible rfl))
                    case hq138 => exact fun _ _ _ h => h
                    simp only [List.set_cons_succ, List.set_cons_zero]
                    refine take_at (i := 8) (d := 2) (oi := ?o139) (v := ?v139) ?hi139 ?hd139 (by kernel_rfl) (by kernel_rfl) (by kernel_rfl) ?hw139 ?hy139 ?hq139 (by assumption) ?r139
                    case hi139 => (simp only [List.getElem?_toArray, List.getElem?_cons_succ, List.getElem?_cons_zero]; rfl)
                    case hd139 => rfl
                    case hw139 => rfl
                    case hy139 => ((intro w hSw; (try dsimp only at hSw); go_simp) <;> (with_reducible rfl))
                    case hq139 => exact fun _ _ _ h => h
                    simp only [List.set_cons_succ, List.set_cons_zero]
                    refine wpAnyH_done (by kernel_rfl) ?_ _
                    go_wp2_with fail
                    go_ret
                    exact ⟨ret_bool (by rw [Hk.out]; simp only [Hh1.out, Hh2.out, Hh3.out, Hh4.out, Hh5.out, Hh6.out, Hh7.out, Hh8.out, h9]; rfl), hB.out.trans (hHeld.mono hB.out.size)⟩
                  | true =>
                    go_enter Try.func37, Try.ntmps37
                    go_wp2_with (go_at_call 61; refine (number_any _ _).mono ?_; rintro e w' ⟨rfl, rfl⟩)
                    obtain ⟨z, hz⟩ : ∃ z, z = w.heap.size := ⟨_, rfl⟩
                    rw [← hz]
                    generalize hw0 : w.alloc _ = w0
                    have x0 : BoxS w0 z s := by rw [← hw0, hz]; first | exact BoxS.new w s | (have h := BoxS.new w s; rw [h8] at h; exact h)
                    have hB := Lib.hid (show Below w.heap.size w w0 by rw [← hw0]; exact below_al (below_d0 w) _)
                    have X0 := Lib.hid (show ∀ W, Below w0.heap.size w0 W → BoxS W z s from fun W hW => x0.below hW)
                    clear hw0 hz x0
                    have Hh1 := Lib.hid h1
                    have Hh2 := Lib.hid h2
                    have Hh3 := Lib.hid h3
                    have Hh4 := Lib.hid h4
                    have Hh5 := Lib.hid h5
                    have Hh6 := Lib.hid h6
                    have Hh7 := Lib.hid h7
                    have Hh8 := Lib.hid h8
                    clear h1 h2 h3 h4 h5 h6 h7 h8
                    refine wp_region_held_drew (S := (fun W => Below w0.heap.size w0 W)) (by kernel_rfl) (below_dr (below_d0 _)) (fun hHeld => ?_)
                    refine take_at (i := 0) (d := 47) (oi := ?o140) (v := ?v140) ?hi140 ?hd140 (by kernel_rfl) (by kernel_rfl) (by kernel_rfl) ?hw140 ?hy140 ?hq140 (by assumption) ?r140
                    case hi140 => (simp only [List.getElem?_toArray, List.getElem?_cons_zero]; rfl)
                    case hd140 => rfl
                    case hw140 => rfl
                    case hy140 => ((intro w hSw; (try dsimp only at hSw); go_simp) <;> (with_reducible rfl))
                    case hq140 => exact fun _ _ _ h => h
                    simp only [List.set_cons_succ, List.set_cons_zero]
                    refine take_at (i := 1) (d := 48) (oi := ?o141) (v := ?v141) ?hi141 ?hd141 (by kernel_rfl) (by kernel_rfl) (by kernel_rfl) ?hw141 ?hy141 ?hq141 (by assumption) ?r141
                    case hi141 => (simp only [List.getElem?_toArray, List.getElem?_cons_succ, List.getElem?_cons_zero]; rfl)
                    case hd141 => rfl
                    case hw141 => rfl
                    case hy141 => ((intro w hSw; (try dsimp only at hSw); obtain ⟨k0, k1, k2, k3, k4⟩ := (X0.out _ hSw).cells; go_simp) <;> (with_reducible rfl))
                    case hq141 => exact fun _ _ _ h => h
                    simp only [List.set_cons_succ, List.set_cons_zero]
                    refine take_at (i := 2) (d := 49) (oi := ?o142) (v := ?v142) ?hi142 ?hd142 (by kernel_rfl) (by kernel_rfl) (by kernel_rfl) ?hw142 ?hy142 ?hq142 (by assumption) ?r142
                    case hi142 => (simp only [List.getElem?_toArray, List.getElem?_cons_succ, List.getElem?_cons_zero]; rfl)
                    case hd142 => rfl
                    case hw142 => rfl
                    case hy142 => ((intro w hSw; (try dsimp only at hSw); go_simp) <;> (with_reducible rfl))
                    case hq142 => exact fun _ _ _ h => h
                    simp only [List.set_cons_succ, List.set_cons_zero]
                    refine take_at (i := 3) (d := 50) (oi := ?o143) (v := ?v143) ?hi143 ?hd143 (by kernel_rfl) (by kernel_rfl) (by kernel_rfl) ?hw143 ?hy143 ?hq143 (by assumption) ?r143
                    case hi143 => (simp only [List.getElem?_toArray, List.getElem?_cons_succ, List.getElem?_cons_zero]; rfl)
                    case hd143 => rfl
                    case hw143 => rfl
                    case hy143 => ((intro w hSw; (try dsimp only at hSw); go_simp) <;> (with_reducible rfl))
                    case hq143 => exact fun _ _ _ h => h
                    simp only [List.set_cons_succ, List.set_cons_zero]
                    refine skip_at (i := 4) (d := 51) (oi := ?o144) ?hi144 ?hd144 (by kernel_rfl) (by kernel_rfl) (by kernel_rfl) ?hw144 ?hq144 (by assumption) ?r144
                    case hi144 => (simp only [List.getElem?_toArray, List.getElem?_cons_succ, List.getElem?_cons_zero]; rfl)
                    case hd144 => rfl
                    case hw144 => rfl
                    case hq144 => exact fun _ _ _ h => h
                    simp only [List.set_cons_succ, List.set_cons_zero]
                    refine skip_at (i := 5) (d := 52) (oi := ?o145) ?hi145 ?hd145 (by kernel_rfl) (by kernel_rfl) (by kernel_rfl) ?hw145 ?hq145 (by assumption) ?r145
                    case hi145 => (simp only [List.getElem?_toArray, List.getElem?_cons_succ, List.getElem?_cons_zero]; rfl)
                    case hd145 => rfl
                    case hw145 => rfl
                    case hq145 => exact fun _ _ _ h => h
                    simp only [List.set_cons_succ, List.set_cons_zero]
                    refine skip_at (i := 6) (d := 53) (oi := ?o146) ?hi146 ?hd146 (by kernel_rfl) (by kernel_rfl) (by kernel_rfl) ?hw146 ?hq146 (by assumption) ?r146
                    case hi146 => (simp only [List.getElem?_toArray, List.getElem?_cons_succ, List.getElem?_cons_zero]; rfl)
                    case hd146 => rfl
                    case hw146 => rfl
                    case hq146 => exact fun _ _ _ h => h
                    simp only [List.set_cons_succ, List.set_cons_zero]
                    refine take_at (i := 7) (d := 54) (oi := ?o147) (v := ?v147) ?hi147 ?hd147 (by kernel_rfl) (by kernel_rfl) (by kernel_rfl) ?hw147 ?hy147 ?hq147 (by assumption) ?r147
                    case hi147 => (simp only [List.getElem?_toArray, List.getElem?_cons_succ, List.getElem?_cons_zero]; rfl)
                    case hd147 => rfl
                    case hw147 => rfl
                    case hy147 => ((intro w hSw; (try dsimp only at hSw); go_simp) <;> (with_reducible rfl))
                    case hq147 => exact fun _ _ _ h => h
                    simp only [List.set_cons_succ, List.set_cons_zero]
                    refine take_at (i := 8) (d := 2) (oi := ?o148) (v := ?v148) ?hi148 ?hd148 (by kernel_rfl) (by kernel_rfl) (by kernel_rfl) ?hw148 ?hy148 ?hq148 (by assumption) ?r148
                    case hi148 => (simp only [List.getElem?_toArray, List.getElem?_cons_succ, List.getElem?_cons_zero]; rfl)
                    case hd148 => rfl
                    case hw148 => rfl
                    case hy148 => ((intro w hSw; (try dsimp only at hSw); go_simp) <;> (with_reducible rfl))
                    case hq148 => exact fun _ _ _ h => h
                    simp only [List.set_cons_succ, List.set_cons_zero]
                    refine wpAnyH_done (by kernel_rfl) ?_ _
                    go_wp2_with fail
                    go_ret
                    exact ⟨ret_bool (by rw [Hk.out]; simp only [Hh1.out, Hh2.out, Hh3.out, Hh4.out, Hh5.out, Hh6.out, Hh7.out, Hh8.out, h9]; rfl), hB.out.trans (hHeld.mono hB.out.size)⟩
                | true =>
                  go_enter Try.func37, Try.ntmps37
                  go_wp2_with (go_at_call 61; refine (number_any _ _).mono ?_; rintro e w' ⟨rfl, rfl⟩)
                  go_ret
                  exact ⟨ret_bool (by rw [Hk.out]; simp only [h1, h2, h3, h4, h5, h6, h7, h8]; rfl), below_al (below_d0 w) _⟩
            | true =>
              cases h7 : (s.lv != 2) with
              | false =>
                cases h8 : s.fn with
                | false =>
                  cases h9 : decide (0 < s.ix) with
                  | false =>
                    go_enter Try.func37, Try.ntmps37
                    go_wp2_with (go_at_call 61; refine (number_any _ _).mono ?_; rintro e w' ⟨rfl, rfl⟩)
                    obtain ⟨z, hz⟩ : ∃ z, z = w.heap.size := ⟨_, rfl⟩
                    rw [← hz]
                    generalize hw0 : w.alloc _ = w0
                    have x0 : BoxS w0 z s := by rw [← hw0, hz]; first | exact BoxS.new w s | (have h := BoxS.new w s; rw [h8] at h; exact h)
                    have hB := Lib.hid (show Below w.heap.size w w0 by rw [← hw0]; exact below_al (below_d0 w) _)
                    have X0 := Lib.hid (show ∀ W, Below w0.heap.size w0 W → BoxS W z s from fun W hW => x0.below hW)
                    clear hw0 hz x0
                    have Hh1 := Lib.hid h1
                    have Hh2 := Lib.hid h2
                    have Hh3 := Lib.hid h3
                    have Hh4 := Lib.hid h4
                    have Hh5 := Lib.hid h5
                    have Hh6 := Lib.hid h6
                    have Hh7 := Lib.hid h7
                    have Hh8 := Lib.hid h8
                    clear h1 h2 h3 h4 h5 h6 h7 h8
                    refine wp_region_held_drew (S := (fun W => Below w0.heap.size w0 W)) (by kernel_rfl) (below_dr (below_d0 _)) (fun hHeld => ?_)
                    refine take_at (i := 0) (d := 47) (oi := ?o149) (v := ?v149) ?hi149 ?hd149 (by kernel_rfl) (by kernel_rfl) (by kernel_rfl) ?hw149 ?hy149 ?hq149 (by assumption) ?r149
                    case hi149 => (simp only [List.getElem?_toArray, List.getElem?_cons_zero]; rfl)
                    case hd149 => rfl
                    case hw149 => rfl
                    case hy149 => ((intro w hSw; (try dsimp only at hSw); go_simp) <;> (with_reducible rfl))
                    case hq149 => exact fun _ _ _ h => h
                    simp only [List.set_cons_succ, List.set_cons_zero]
                    refine take_at (i := 1) (d := 48) (oi := ?o150) (v := ?v150) ?hi150 ?hd150 (by kernel_rfl) (by kernel_rfl) (by kernel_rfl) ?hw150 ?hy150 ?hq150 (by assumption) ?r150
                    case hi150 => (simp only [List.getElem?_toArray, List.getElem?_cons_succ, List.getElem?_cons_zero]; rfl)
                    case hd150 => rfl
                    case hw150 => rfl
                    case hy150 => ((intro w hSw; (try dsimp only at hSw); obtain ⟨k0, k1, k2, k3, k4⟩ := (X0.out _ hSw).cells; go_simp) <;> (with_reducible rfl))
                    case hq150 => exact fun _ _ _ h => h
                    simp only [List.set_cons_succ, List.set_cons_zero]
                    refine take_at (i := 2) (d := 49) (oi := ?o151) (v := ?v151) ?hi151 ?hd151 (by kernel_rfl) (by kernel_rfl) (by kernel_rfl) ?hw151 ?hy151 ?hq151 (by assumption) ?r151
                    case hi151 => (simp only [List.getElem?_toArray, List.getElem?_cons_succ, List.getElem?_cons_zero]; rfl)
                    case hd151 => rfl
                    case hw151 => rfl
                    case hy151 => ((intro w hSw; (try dsimp only at hSw); go_simp) <;> (with_reducible rfl))
                    case hq151 => exact fun _ _ _ h => h
                    simp only [List.set_cons_succ, List.set_cons_zero]
                    refine take_at (i := 3) (d := 50) (oi := ?o152) (v := ?v152) ?hi152 ?hd152 (by kernel_rfl) (by kernel_rfl) (by kernel_rfl) ?hw152 ?hy152 ?hq152 (by assumption) ?r152
                    case hi152 => (simp only [List.getElem?_toArray, List.getElem?_cons_succ, List.getElem?_cons_zero]; rfl)
                    case hd152 => rfl
                    case hw152 => rfl
                    case hy152 => ((intro w hSw; (try dsimp only at hSw); go_simp) <;> (with_reducible rfl))
                    case hq152 => exact fun _ _ _ h => h
                    simp only [List.set_cons_succ, List.set_cons_zero]
                    refine take_at (i := 4) (d := 51) (oi := ?o153) (v := ?v153) ?hi153 ?hd153 (by kernel_rfl) (by kernel_rfl) (by kernel_rfl) ?hw153 ?hy153 ?hq153 (by assumption) ?r153
                    case hi153 => (simp only [List.getElem?_toArray, List.getElem?_cons_succ, List.getElem?_cons_zero]; rfl)
                    case hd153 => rfl
                    case hw153 => rfl
                    case hy153 => ((intro w hSw; (try dsimp only at hSw); obtain ⟨k0, k1, k2, k3, k4⟩ := (X0.out _ hSw).cells; go_simp) <;> (with_reducible rfl))
                    case hq153 => exact fun _ _ _ h => h
                    simp only [List.set_cons_succ, List.set_cons_zero]
                    refine call_at (i := 5) (d := 52) (oi := ?o154) (f := ?f154) (args := ?a154) ?hi154 ?hd154 (by kernel_rfl) ?hw154 ?he154 ?hc154
                    case hi154 => (simp only [List.getElem?_toArray, List.getElem?_cons_succ, List.getElem?_cons_zero]; rfl)
                    case hd154 => rfl
                    case hw154 => rfl
                    case he154 => (go_simp; constructor <;> with_reducible rfl)
                    refine Calls.mono (rfirst_any _) ?_
                    rintro e w1 ⟨rfl, hb1⟩
                    have kb : Below w0.heap.size w0 w1 := hHeld.trans (hb1.mono hHeld.size)
                    unfold firstP StP.v
                    dsimp only
                    refine ⟨_, rfl, kb, fun hHeld => ?_⟩
                    simp only [List.set_cons_succ, List.set_cons_zero]
                    refine take_at (i := 6) (d := 53) (oi := ?o155) (v := ?v155) ?hi155 ?hd155 (by kernel_rfl) (by kernel_rfl) (by kernel_rfl) ?hw155 ?hy155 ?hq155 (by assumption) ?r155
                    case hi155 => (simp only [List.getElem?_toArray, List.getElem?_cons_succ, List.getElem?_cons_zero]; rfl)
                    case hd155 => rfl
                    case hw155 => rfl
                    case hy155 => ((intro w hSw; (try dsimp only at hSw); go_simp) <;> (with_reducible rfl))
                    case hq155 => exact fun _ _ _ h => h
                    simp only [List.set_cons_succ, List.set_cons_zero]
                    refine take_at (i := 7) (d := 54) (oi := ?o156) (v := ?v156) ?hi156 ?hd156 (by kernel_rfl) (by kernel_rfl) (by kernel_rfl) ?hw156 ?hy156 ?hq156 (by assumption) ?r156
                    case hi156 => (simp only [List.getElem?_toArray, List.getElem?_cons_succ, List.getElem?_cons_zero]; rfl)
                    case hd156 => rfl
                    case hw156 => rfl
                    case hy156 => ((intro w hSw; (try dsimp only at hSw); go_simp) <;> (with_reducible rfl))
                    case hq156 => exact fun _ _ _ h => h
                    simp only [List.set_cons_succ, List.set_cons_zero]
                    refine take_at (i := 8) (d := 2) (oi := ?o157) (v := ?v157) ?hi157 ?hd157 (by kernel_rfl) (by kernel_rfl) (by kernel_rfl) ?hw157 ?hy157 ?hq157 (by assumption) ?r157
                    case hi157 => (simp only [List.getElem?_toArray, List.getElem?_cons_succ, List.getElem?_cons_zero]; rfl)
                    case hd157 => rfl
                    case hw157 => rfl
                    case hy157 => ((intro w hSw; (try dsimp only at hSw); go_simp) <;> (with_reducible rfl))
                    case hq157 => exact fun _ _ _ h => h
                    simp only [List.set_cons_succ, List.set_cons_zero]
                    refine wpAnyH_done (by kernel_rfl) ?_ _
                    go_wp2_with fail
                    go_ret
                    exact ⟨ret_bool (by rw [Hk.out]; simp only [Hh1.out, Hh2.out, Hh3.out, Hh4.out, Hh5.out, Hh6.out, Hh7.out, Hh8.out, h9]; rfl), hB.out.trans (hHeld.mono hB.out.size)⟩
                  | true =>
                    go_enter Try.func37, Try.ntmps37
                    go_wp2_with (go_at_call 61; refine (number_any _ _).mono ?_; rintro e w' ⟨rfl, rfl⟩)
                    obtain ⟨z, hz⟩ : ∃ z, z = w.heap.size := ⟨_, rfl⟩
                    rw [← hz]
                    generalize hw0 : w.alloc _ = w0
                    have x0 : BoxS w0 z s := by rw [← hw0, hz]; first | exact BoxS.new w s | (have h := BoxS.new w s; rw [h8] at h; exact h)
                    have hB := Lib.hid (show Below w.heap.size w w0 by rw [← hw0]; exact below_al (below_d0 w) _)
                    have X0 := Lib.hid (show ∀ W, Below w0.heap.size w0 W → BoxS W z s from fun W hW => x0.below hW)
                    clear hw0 hz x0
                    have Hh1 := Lib.hid h1
                    have Hh2 := Lib.hid h2
                    have Hh3 := Lib.hid h3
                    have Hh4 := Lib.hid h4
                    have Hh5 := Lib.hid h5
                    have Hh6 := Lib.hid h6
                    have Hh7 := Lib.hid h7
                    have Hh8 := Lib.hid h8
                    clear h1 h2 h3 h4 h5 h6 h7 h8
                    refine wp_region_held_drew (S := (fun W => Below w0.heap.size w0 W)) (by kernel_rfl) (below_dr (below_d0 _)) (fun hHeld => ?_)
                    refine take_at (i := 0) (d := 47) (oi := ?o158) (v := ?v158) ?hi158 ?hd158 (by kernel_rfl) (by kernel_rfl) (by kernel_rfl) ?hw158 ?hy158 ?hq158 (by assumption) ?r158
                    case hi158 => (simp only [List.getElem?_toArray, List.getElem?_cons_zero]; rfl)
                    case hd158 => rfl
                    case hw158 => rfl
                    case hy158 => ((intro w hSw; (try dsimp only at hSw); go_simp) <;> (with_reducible rfl))
                    case hq158 => exact fun _ _ _ h => h
                    simp only [List.set_cons_succ, List.set_cons_zero]
                    refine take_at (i := 1) (d := 48) (oi := ?o159) (v := ?v159) ?hi159 ?hd159 (by kernel_rfl) (by kernel_rfl) (by kernel_rfl) ?hw159 ?hy159 ?hq159 (by assumption) ?r159
                    case hi159 => (simp only [List.getElem?_toArray, List.getElem?_cons_succ, List.getElem?_cons_zero]; rfl)
                    case hd159 => rfl
                    case hw159 => rfl
                    case hy159 => ((intro w hSw; (try dsimp only at hSw); obtain ⟨k0, k1, k2, k3, k4⟩ := (X0.out _ hSw).cells; go_simp) <;> (with_reducible rfl))
                    case hq159 => exact fun _ _ _ h => h
                    simp only [List.set_cons_succ, List.set_cons_zero]
                    refine take_at (i := 2) (d := 49) (oi := ?o160) (v := ?v160) ?hi160 ?hd160 (by kernel_rfl) (by kernel_rfl) (by kernel_rfl) ?hw160 ?hy160 ?hq160 (by assumption) ?r160
                    case hi160 => (simp only [List.getElem?_toArray, List.getElem?_cons_succ, List.getElem?_cons_zero]; rfl)
                    case hd160 => rfl
                    case hw160 => rfl
                    case hy160 => ((intro w hSw; (try dsimp only at hSw); go_simp) <;> (with_reducible rfl))
                    case hq160 => exact fun _ _ _ h => h
                    simp only [List.set_cons_succ, List.set_cons_zero]
                    refine take_at (i := 3) (d := 50) (oi := ?o161) (v := ?v161) ?hi161 ?hd161 (by kernel_rfl) (by kernel_rfl) (by kernel_rfl) ?hw161 ?hy161 ?hq161 (by assumption) ?r161
                    case hi161 => (simp only [List.getElem?_toArray, List.getElem?_cons_succ, List.getElem?_cons_zero]; rfl)
                    case hd161 => rfl
                    case hw161 => rfl
                    case hy161 => ((intro w hSw; (try dsimp only at hSw); go_simp) <;> (with_reducible rfl))
                    case hq161 => exact fun _ _ _ h => h
                    simp only [List.set_cons_succ, List.set_cons_zero]
                    refine skip_at (i := 4) (d := 51) (oi := ?o162) ?hi162 ?hd162 (by kernel_rfl) (by kernel_rfl) (by kernel_rfl) ?hw162 ?hq162 (by assumption) ?r162
                    case hi162 => (simp only [List.getElem?_toArray, List.getElem?_cons_succ, List.getElem?_cons_zero]; rfl)
                    case hd162 => rfl
                    case hw162 => rfl
                    case hq162 => exact fun _ _ _ h => h
                    simp only [List.set_cons_succ, List.set_cons_zero]
                    refine skip_at (i := 5) (d := 52) (oi := ?o163) ?hi163 ?hd163 (by kernel_rfl) (by kernel_rfl) (by kernel_rfl) ?hw163 ?hq163 (by assumption) ?r163
                    case hi163 => (simp only [List.getElem?_toArray, List.getElem?_cons_succ, List.getElem?_cons_zero]; rfl)
                    case hd163 => rfl
                    case hw163 => rfl
                    case hq163 => exact fun _ _ _ h => h
                    simp only [List.set_cons_succ, List.set_cons_zero]
                    refine skip_at (i := 6) (d := 53) (oi := ?o164) ?hi164 ?hd164 (by kernel_rfl) (by kernel_rfl) (by kernel_rfl) ?hw164 ?hq164 (by assumption) ?r164
                    case hi164 => (simp only [List.getElem?_toArray, List.getElem?_cons_succ, List.getElem?_cons_zero]; rfl)
                    case hd164 => rfl
                    case hw164 => rfl
                    case hq164 => exact fun _ _ _ h => h
                    simp only [List.set_cons_succ, List.set_cons_zero]
                    refine take_at (i := 7) (d := 54) (oi := ?o165) (v := ?v165) ?hi165 ?hd165 (by kernel_rfl) (by kernel_rfl) (by kernel_rfl) ?hw165 ?hy165 ?hq165 (by assumption) ?r165
                    case hi165 => (simp only [List.getElem?_toArray, List.getElem?_cons_succ, List.getElem?_cons_zero]; rfl)
                    case hd165 => rfl
                    case hw165 => rfl
                    case hy165 => ((intro w hSw; (try dsimp only at hSw); go_simp) <;> (with_reducible rfl))
                    case hq165 => exact fun _ _ _ h => h
                    simp only [List.set_cons_succ, List.set_cons_zero]
                    refine take_at (i := 8) (d := 2) (oi := ?o166) (v := ?v166) ?hi166 ?hd166 (by kernel_rfl) (by kernel_rfl) (by kernel_rfl) ?hw166 ?hy166 ?hq166 (by assumption) ?r166
                    case hi166 => (simp only [List.getElem?_toArray, List.getElem?_cons_succ, List.getElem?_cons_zero]; rfl)
                    case hd166 => rfl
                    case hw166 => rfl
                    case hy166 => ((intro w hSw; (try dsimp only at hSw); go_simp) <;> (with_reducible rfl))
                    case hq166 => exact fun _ _ _ h => h
                    simp only [List.set_cons_succ, List.set_cons_zero]
                    refine wpAnyH_done (by kernel_rfl) ?_ _
                    go_wp2_with fail
                    go_ret
                    exact ⟨ret_bool (by rw [Hk.out]; simp only [Hh1.out, Hh2.out, Hh3.out, Hh4.out, Hh5.out, Hh6.out, Hh7.out, Hh8.out, h9]; rfl), hB.out.trans (hHeld.mono hB.out.size)⟩
                | true =>
                  cases h9 : decide (0 < s.ix) with
                  | false =>
                    go_enter Try.func37, Try.ntmps37
                    go_wp2_with (go_at_call 61; refine (number_any _ _).mono ?_; rintro e w' ⟨rfl, rfl⟩)
                    obtain ⟨z, hz⟩ : ∃ z, z = w.heap.size := ⟨_, rfl⟩
                    rw [← hz]
                    generalize hw0 : w.alloc _ = w0
                    have x0 : BoxS w0 z s := by rw [← hw0, hz]; first | exact BoxS.new w s | (have h := BoxS.new w s; rw [h8] at h; exact h)
                    have hB := Lib.hid (show Below w.heap.size w w0 by rw [← hw0]; exact below_al (below_d0 w) _)
                    have X0 := Lib.hid (show ∀ W, Below w0.heap.size w0 W → BoxS W z s from fun W hW => x0.below hW)
                    clear hw0 hz x0
                    have Hh1 := Lib.hid h1
                    have Hh2 := Lib.hid h2
                    have Hh3 := Lib.hid h3
                    have Hh4 := Lib.hid h4
                    have Hh5 := Lib.hid h5
                    have Hh6 := Lib.hid h6
                    have Hh7 := Lib.hid h7
                    have Hh8 := Lib.hid h8
                    clear h1 h2 h3 h4 h5 h6 h7 h8
                    refine wp_region_held_drew (S := (fun W => Below w0.heap.size w0 W)) (by kernel_rfl) (below_dr (below_d0 _)) (fun hHeld => ?_)
                    refine take_at (i := 0) (d := 47) (oi := ?o167) (v := ?v167) ?hi167 ?hd167 (by kernel_rfl) (by kernel_rfl) (by kernel_rfl) ?hw167 ?hy167 ?hq167 (by assumption) ?r167
                    case hi167 => (simp only [List.getElem?_toArray, List.getElem?_cons_zero]; rfl)
                    case hd167 => rfl
                    case hw167 => rfl
                    case hy167 => ((intro w hSw; (try dsimp only at hSw); go_simp) <;> (with_reducible rfl))
                    case hq167 => exact fun _ _ _ h => h
                    simp only [List.set_cons_succ, List.set_cons_zero]
                    refine take_at (i := 1) (d := 48) (oi := ?o168) (v := ?v168) ?hi168 ?hd168 (by kernel_rfl) (by kernel_rfl) (by kernel_rfl) ?hw168 ?hy168 ?hq168 (by assumption) ?r168
                    case hi168 => (simp only [List.getElem?_toArray, List.getElem?_cons_succ, List.getElem?_cons_zero]; rfl)
                    case hd168 => rfl
                    case hw168 => rfl
                    case hy168 => ((intro w hSw; (try dsimp only at hSw); obtain ⟨k0, k1, k2, k3, k4⟩ := (X0.out _ hSw).cells; go_simp) <;> (with_reducible rfl))
                    case hq168 => exact fun _ _ _ h => h
                    simp only [List.set_cons_succ, List.set_cons_zero]
                    refine take_at (i := 2) (d := 49) (oi := ?o169) (v := ?v169) ?hi169 ?hd169 (by kernel_rfl) (by kernel_rfl) (by kernel_rfl) ?hw169 ?hy169 ?hq169 (by assumption) ?r169
                    case hi169 => (simp only [List.getElem?_toArray, List.getElem?_cons_succ, List.getElem?_cons_zero]; rfl)
                    case hd169 => rfl
                    case hw169 => rfl
                    case hy169 => ((intro w hSw; (try dsimp only at hSw); go_simp) <;> (with_reducible rfl))
                    case hq169 => exact fun _ _ _ h => h
                    simp only [List.set_cons_succ, List.set_cons_zero]
                    refine take_at (i := 3) (d := 50) (oi := ?o170) (v := ?v170) ?hi170 ?hd170 (by kernel_rfl) (by kernel_rfl) (by kernel_rfl) ?hw170 ?hy170 ?hq170 (by assumption) ?r170
                    case hi170 => (simp only [List.getElem?_toArray, List.getElem?_cons_succ, List.getElem?_cons_zero]; rfl)
                    case hd170 => rfl
                    case hw170 => rfl
                    case hy170 => ((intro w hSw; (try dsimp only at hSw); go_simp) <;> (with_reducible rfl))
                    case hq170 => exact fun _ _ _ h => h
                    simp only [List.set_cons_succ, List.set_cons_zero]
                    refine take_at (i := 4) (d := 51) (oi := ?o171) (v := ?v171) ?hi171 ?hd171 (by kernel_rfl) (by kernel_rfl) (by kernel_rfl) ?hw171 ?hy171 ?hq171 (by assumption) ?r171
                    case hi171 => (simp only [List.getElem?_toArray, List.getElem?_cons_succ, List.getElem?_cons_zero]; rfl)
                    case hd171 => rfl
                    case hw171 => rfl
                    case hy171 => ((intro w hSw; (try dsimp only at hSw); obtain ⟨k0, k1, k2, k3, k4⟩ := (X0.out _ hSw).cells; go_simp) <;> (with_reducible rfl))
                    case hq171 => exact fun _ _ _ h => h
                    simp only [List.set_cons_succ, List.set_cons_zero]
                    refine call_at (i := 5) (d := 52) (oi := ?o172) (f := ?f172) (args := ?a172) ?hi172 ?hd172 (by kernel_rfl) ?hw172 ?he172 ?hc172
                    case hi172 => (simp only [List.getElem?_toArray, List.getElem?_cons_succ, List.getElem?_cons_zero]; rfl)
                    case hd172 => rfl
                    case hw172 => rfl
                    case he172 => (go_simp; constructor <;> with_reducible rfl)
                    refine Calls.mono (rfirst_any _) ?_
                    rintro e w1 ⟨rfl, hb1⟩
                    have kb : Below w0.heap.size w0 w1 := hHeld.trans (hb1.mono hHeld.size)
                    unfold firstP StP.v
                    dsimp only
                    refine ⟨_, rfl, kb, fun hHeld => ?_⟩
                    simp only [List.set_cons_succ, List.set_cons_zero]
                    refine take_at (i := 6) (d := 53) (oi := ?o173) (v := ?v173) ?hi173 ?hd173 (by kernel_rfl) (by kernel_rfl) (by kernel_rfl) ?hw173 ?hy173 ?hq173 (by assumption) ?r173
                    case hi173 => (simp only [List.getElem?_toArray, List.getElem?_cons_succ, List.getElem?_cons_zero]; rfl)
                    case hd173 => rfl
                    case hw173 => rfl
                    case hy173 => ((intro w hSw; (try dsimp only at hSw); go_simp) <;> (with_reducible rfl))
                    case hq173 => exact fun _ _ _ h => h
                    simp only [List.set_cons_succ, List.set_cons_zero]
                    refine take_at (i := 7) (d := 54) (oi := ?o174) (v := ?v174) ?hi174 ?hd174 (by kernel_rfl) (by kernel_rfl) (by kernel_rfl) ?hw174 ?hy174 ?hq174 (by assumption) ?r174
                    case hi174 => (simp only [List.getElem?_toArray, List.getElem?_cons_succ, List.getElem?_cons_zero]; rfl)
                    case hd174 => rfl
                    case hw174 => rfl
                    case hy174 => ((intro w hSw; (try dsimp only at hSw); go_simp) <;> (with_reducible rfl))
                    case hq174 => exact fun _ _ _ h => h
                    simp only [List.set_cons_succ, List.set_cons_zero]
                    refine take_at (i := 8) (d := 2) (oi := ?o175) (v := ?v175) ?hi175 ?hd175 (by kernel_rfl) (by kernel_rfl) (by kernel_rfl) ?hw175 ?hy175 ?hq175 (by assumption) ?r175
                    case hi175 => (simp only [List.getElem?_toArray, List.getElem?_cons_succ, List.getElem?_cons_zero]; rfl)
                    case hd175 => rfl
                    case hw175 => rfl
                    case hy175 => ((intro w hSw; (try dsimp only at hSw); go_simp) <;> (with_reducible rfl))
                    case hq175 => exact fun _ _ _ h => h
                    simp only [List.set_cons_succ, List.set_cons_zero]
                    refine wpAnyH_done (by kernel_rfl) ?_ _
                    go_wp2_with fail
                    go_ret
                    exact ⟨ret_bool (by rw [Hk.out]; simp only [Hh1.out, Hh2.out, Hh3.out, Hh4.out, Hh5.out, Hh6.out, Hh7.out, Hh8.out, h9]; rfl), hB.out.trans (hHeld.mono hB.out.size)⟩
                  | true =>
                    go_enter Try.func37, Try.ntmps37
                    go_wp2_with (go_at_call 61; refine (number_any _ _).mono ?_; rintro e w' ⟨rfl, rfl⟩)
                    obtain ⟨z, hz⟩ : ∃ z, z = w.heap.size := ⟨_, rfl⟩
                    rw [← hz]
                    generalize hw0 : w.alloc _ = w0
                    have x0 : BoxS w0 z s := by rw [← hw0, hz]; first | exact BoxS.new w s | (have h := BoxS.new w s; rw [h8] at h; exact h)
                    have hB := Lib.hid (show Below w.heap.size w w0 by rw [← hw0]; exact below_al (below_d0 w) _)
                    have X0 := Lib.hid (show ∀ W, Below w0.heap.size w0 W → BoxS W z s from fun W hW => x0.below hW)
                    clear hw0 hz x0
                    have Hh1 := Lib.hid h1
                    have Hh2 := Lib.hid h2
                    have Hh3 := Lib.hid h3
                    have Hh4 := Lib.hid h4
                    have Hh5 := Lib.hid h5
                    have Hh6 := Lib.hid h6
                    have Hh7 := Lib.hid h7
                    have Hh8 := Lib.hid h8
                    clear h1 h2 h3 h4 h5 h6 h7 h8
                    refine wp_region_held_drew (S := (fun W => Below w0.heap.size w0 W)) (by kernel_rfl) (below_dr (below_d0 _)) (fun hHeld => ?_)
                    refine take_at (i := 0) (d := 47) (oi := ?o176) (v := ?v176) ?hi176 ?hd176 (by kernel_rfl) (by kernel_rfl) (by kernel_rfl) ?hw176 ?hy176 ?hq176 (by assumption) ?r176
                    case hi176 => (simp only [List.getElem?_toArray, List.getElem?_cons_zero]; rfl)
                    case hd176 => rfl
                    case hw176 => rfl
                    case hy176 => ((intro w hSw; (try dsimp only at hSw); go_simp) <;> (with_reducible rfl))
                    case hq176 => exact fun _ _ _ h => h
                    simp only [List.set_cons_succ, List.set_cons_zero]
                    refine take_at (i := 1) (d := 48) (oi := ?o177) (v := ?v177) ?hi177 ?hd177 (by kernel_rfl) (by kernel_rfl) (by kernel_rfl) ?hw177 ?hy177 ?hq177 (by assumption) ?r177
                    case hi177 => (simp only [List.getElem?_toArray, List.getElem?_cons_succ, List.getElem?_cons_zero]; rfl)
                    case hd177 => rfl
                    case hw177 => rfl
                    case hy177 => ((intro w hSw; (try dsimp only at hSw); obtain ⟨k0, k1, k2, k3, k4⟩ := (X0.out _ hSw).cells; go_simp) <;> (with_reducible rfl))
                    case hq177 => exact fun _ _ _ h => h
                    simp only [List.set_cons_succ, List.set_cons_zero]
                    refine take_at (i := 2) (d := 49) (oi := ?o178) (v := ?v178) ?hi178 ?hd178 (by kernel_rfl) (by kernel_rfl) (by kernel_rfl) ?hw178 ?hy178 ?hq178 (by assumption) ?r178
                    case hi178 => (simp only [List.getElem?_toArray, List.getElem?_cons_succ, List.getElem?_cons_zero]; rfl)
                    case hd178 => rfl
                    case hw178 => rfl
                    case hy178 => ((intro w hSw; (try dsimp only at hSw); go_simp) <;> (with_reducible rfl))
                    case hq178 => exact fun _ _ _ h => h
                    simp only [List.set_cons_succ, List.set_cons_zero]
                    refine take_at (i := 3) (d := 50) (oi := ?o179) (v := ?v179) ?hi179 ?hd179 (by kernel_rfl) (by kernel_rfl) (by kernel_rfl) ?hw179 ?hy179 ?hq179 (by assumption) ?r179
                    case hi179 => (simp only [List.getElem?_toArray, List.getElem?_cons_succ, List.getElem?_cons_zero]; rfl)
                    case hd179 => rfl
                    case hw179 => rfl
                    case hy179 => ((intro w hSw; (try dsimp only at hSw); go_simp) <;> (with_reducible rfl))
                    case hq179 => exact fun _ _ _ h => h
                    simp only [List.set_cons_succ, List.set_cons_zero]
                    refine skip_at (i := 4) (d := 51) (oi := ?o180) ?hi180 ?hd180 (by kernel_rfl) (by kernel_rfl) (by kernel_rfl) ?hw180 ?hq180 (by assumption) ?r180
                    case hi180 => (simp only [List.getElem?_toArray, List.getElem?_cons_succ, List.getElem?_cons_zero]; rfl)
                    case hd180 => rfl
                    case hw180 => rfl
                    case hq180 => exact fun _ _ _ h => h
                    simp only [List.set_cons_succ, List.set_cons_zero]
                    refine skip_at (i := 5) (d := 52) (oi := ?o181) ?hi181 ?hd181 (by kernel_rfl) (by kernel_rfl) (by kernel_rfl) ?hw181 ?hq181 (by assumption) ?r181
                    case hi181 => (simp only [List.getElem?_toArray, List.getElem?_cons_succ, List.getElem?_cons_zero]; rfl)
                    case hd181 => rfl
                    case hw181 => rfl
                    case hq181 => exact fun _ _ _ h => h
                    simp only [List.set_cons_succ, List.set_cons_zero]
                    refine skip_at (i := 6) (d := 53) (oi := ?o182) ?hi182 ?hd182 (by kernel_rfl) (by kernel_rfl) (by kernel_rfl) ?hw182 ?hq182 (by assumption) ?r182
                    case hi182 => (simp only [List.getElem?_toArray, List.getElem?_cons_succ, List.getElem?_cons_zero]; rfl)
                    case hd182 => rfl
                    case hw182 => rfl
                    case hq182 => exact fun _ _ _ h => h
                    simp only [List.set_cons_succ, List.set_cons_zero]
                    refine take_at (i := 7) (d := 54) (oi := ?o183) (v := ?v183) ?hi183 ?hd183 (by kernel_rfl) (by kernel_rfl) (by kernel_rfl) ?hw183 ?hy183 ?hq183 (by assumption) ?r183
                    case hi183 => (simp only [List.getElem?_toArray, List.getElem?_cons_succ, List.getElem?_cons_zero]; rfl)
                    case hd183 => rfl
                    case hw183 => rfl
                    case hy183 => ((intro w hSw; (try dsimp only at hSw); go_simp) <;> (with_reducible rfl))
                    case hq183 => exact fun _ _ _ h => h
                    simp only [List.set_cons_succ, List.set_cons_zero]
                    refine take_at (i := 8) (d := 2) (oi := ?o184) (v := ?v184) ?hi184 ?hd184 (by kernel_rfl) (by kernel_rfl) (by kernel_rfl) ?hw184 ?hy184 ?hq184 (by assumption) ?r184
                    case hi184 => (simp only [List.getElem?_toArray, List.getElem?_cons_succ, List.getElem?_cons_zero]; rfl)
                    case hd184 => rfl
                    case hw184 => rfl
                    case hy184 => ((intro w hSw; (try dsimp only at hSw); go_simp) <;> (with_reducible rfl))
                    case hq184 => exact fun _ _ _ h => h
                    simp only [List.set_cons_succ, List.set_cons_zero]
                    refine wpAnyH_done (by kernel_rfl) ?_ _
                    go_wp2_with fail
                    go_ret
                    exact ⟨ret_bool (by rw [Hk.out]; simp only [Hh1.out, Hh2.out, Hh3.out, Hh4.out, Hh5.out, Hh6.out, Hh7.out, Hh8.out, h9]; rfl), hB.out.trans (hHeld.mono hB.out.size)⟩
              | true =>
                go_enter Try.func37, Try.ntmps37
                go_wp2_with (go_at_call 61; refine (number_any _ _).mono ?_; rintro e w' ⟨rfl, rfl⟩)
                go_ret
                exact ⟨ret_bool (by rw [Hk.out]; simp only [h1, h2, h3, h4, h5, h6, h7]; rfl), below_al (below_d0 w) _⟩
end Go.Proofs.Ytbhnlmlaebngmaa
