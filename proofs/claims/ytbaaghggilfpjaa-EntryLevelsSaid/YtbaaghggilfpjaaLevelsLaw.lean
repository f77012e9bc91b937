/-
  EntryLevels: it returns true.
-/
import Derived.Test.YtbaaghggilfpjaaWakes
import Derived.Test.YtbaaghggilfpjaaRNext
import Derived.Test.YtbaaghggilfpjaaLev
import Derived.Test.YtbaaghggilfpjaaInts
namespace Go.Proofs.Ytbaaghggilfpjaa
open Go.RowKit Go.Maps

/-- Behind entries that may be: so many have come; it may be. -/
theorem all_right : ∀ (l : List EnP), (∀ e ∈ l, RightP e) → l.length ≤ 1000 → (allP firstP l).ix = l.length := by
  intro l
  have key : ∀ (l : List EnP) (s : StP), FineP s → (∀ e ∈ l, RightP e) → s.ix + l.length ≤ 2000 → (allP s l).ix = s.ix + l.length := by
    intro l
    induction l with
    | nil => intro s _ _ _; simp [allP]
    | cons e l ih =>
      intro s hs hr hx
      simp only [List.length_cons] at hx
      have e1 : (nextP s e).ix = s.ix + 1 := by rw [next_yes ⟨hs, hr e (by simp), by omega⟩, (does_ix _ _ _).1]
      show (allP (nextP s e) l).ix = _
      rw [ih _ (next_fine hs) (fun x hx => hr x (by simp [hx])) (by omega), e1, List.length_cons]
      omega
  intro hr hl
  rw [key l firstP fine_first hr (by show (0 : Int) + _ ≤ _; omega)]
  show (0 : Int) + _ = _
  omega
/-- What a state comes to by an entry that may be: its level, whether it is final. -/
theorem next_lv {t : StP} {e : EnP} (h : GoesP t e) : (nextP t e).lv = (if e.kd = 2 then 2 else if e.kd = 3 then (if t.fn = true then t.lv else 1) else t.lv) ∧ (nextP t e).fn = (if e.kd = 4 then decide (t.lv = 2) else t.fn) ∧ (nextP t e).ix = t.ix + 1 := by
  rw [next_yes h]
  refine ⟨?_, ?_, (does_ix _ _ _).1⟩
  · unfold doesP
    by_cases k1 : e.kd = 1
    · rw [if_pos k1, if_neg (by omega), if_neg (by omega)]
    rw [if_neg k1]
    by_cases k2 : e.kd = 2
    · rw [if_pos k2, if_pos k2]
    rw [if_neg k2, if_neg k2]
    by_cases k3 : e.kd = 3
    · rw [if_pos k3, if_pos k3]
      dsimp only
      split <;> rfl
    rw [if_neg k3, if_neg k3]
    split <;> rfl
  · unfold doesP
    by_cases k4 : e.kd = 4
    · rw [if_neg (by omega), if_neg (by omega), if_neg (by omega), if_pos k4, if_pos k4]
    rw [if_neg k4]
    by_cases k1 : e.kd = 1
    · rw [if_pos k1, if_neg k4]
    rw [if_neg k1]
    by_cases k2 : e.kd = 2
    · rw [if_pos k2, if_neg k4]
    rw [if_neg k2]
    by_cases k3 : e.kd = 3
    · rw [if_pos k3]
      dsimp only
      split <;> rfl
    rw [if_neg k3, if_neg k4]
theorem levels_snoc (s : StP) {l : List EnP} {k : Nat} (hk : k < l.length) : levelsP s (l.take (k + 1)) = levelsP s (l.take k) ++ [(allP s (l.take (k + 1))).lv] := by
  have h : ∀ l, levelsP s l = (statesP s l).map StP.lv := fun l => by
    unfold levelsP statesP
    rw [List.map_map]
    rfl
  rw [h, h, states_succ s hk, List.map_append]
  rfl

/-- Between two rounds: the level, whether it is final, the row of the levels so far. -/
structure LvInv (w : World) (l : List EnP) (j : Nat) (lv fn v : Value) (W : World) : Prop where
  lv : lv = .int .i64 (allP firstP (l.take j)).lv
  fn : fn = .bool (allP firstP (l.take j)).fn
  row : W.ownsRow w.heap.size 3 1 v j ((levelsP firstP (l.take j)).map (Value.int .i64))
  right : ∀ e ∈ l.take j, RightP e
  low : Below w.heap.size w W

set_option maxRecDepth 100000 in
set_option maxHeartbeats 4000000 in
theorem levels_law (A : Option Addr) (n c : Nat) (l : List EnP) (w : World) (hl : Es w w.heap.size A n l) :
    Calls Try.prog 5 #[.slice A n c] w fun e w' => e = .returned (.bool true) ∧ Below w.heap.size w w' := by
  obtain ⟨i0, hi, hz0, hz1, hz2⟩ := info_partsV info_int
  have Hl := Lib.hid hl
  have Hll := Lib.hid hl.len
  clear hl
  go_enter Try.func5, Try.ntmps5
  by_cases hn : 100 < n
  · have t0 : decide ((100 : Int) < (n : Int)) = true := by simp; omega
    go_wp2_with fail
    refine (wakes_true _).mono ?_
    rintro e w1 ⟨rfl, hb1⟩
    go_wp2_with fail
    go_ret
    exact ⟨rfl, below_on (below_d0 w) hb1⟩
  have t0 : decide ((100 : Int) < (n : Int)) = false := by simp; omega
  go_wp2_with fail
  go_loopw [3, 4, 5, 6] (fun lv fn v i wr => ∃ j : Nat, j ≤ n ∧ i = .int .i64 j ∧ LvInv w l j lv fn v wr) (fun _ _ _ i _ => n - (intOf i).toNat)
  case atStart => exact ⟨0, Nat.zero_le _, rfl, rfl, rfl, World.ownsRow_nil _ _ _ _, fun e he => by simp at he, below_d0 w⟩
  case round =>
    obtain ⟨j, hj, rfl, rfl, rfl, hrow, hri, hB⟩ := hrel
    by_cases hlt : j < n
    · obtain ⟨A5, c5, rfl, _⟩ := own_slice hrow
      have hj2 : (0 : Int) ≤ (j : Int) := by omega
      have hj3 : (j : Int) < (n : Int) := by omega
      have hw1 : IntKind.i64.wrap ((j : Int) + 1) = ((j + 1 : Nat) : Int) := by rw [IntKind.wrap_i64]; omega
      obtain ⟨b, off, e, rfl, hb, he, c0, c1, c2⟩ := (Hl.out.on hB hB.size).at_ hlt
      have hnx : nextP (allP firstP (l.take j)) e = allP firstP (l.take (j + 1)) := by rw [take_succ he, all_snoc]
      have hix : (allP firstP (l.take j)).ix = j := by rw [all_right _ hri (by rw [List.length_take, Hll.out]; omega), List.length_take, Hll.out]; omega
      have hfi := all_fine (l.take j) fine_first
      have Hsn := Lib.hid (levels_snoc firstP (l := l) (k := j) (by rw [Hll.out]; exact hlt))
      have Hri := Lib.hid (show RightP e → ∀ x ∈ l.take (j + 1), RightP x from fun h x hx => by
        rw [take_succ he] at hx
        rcases List.mem_append.1 hx with hx | hx
        · exact hri x hx
        · rw [List.mem_singleton.1 hx]; exact h)
      obtain ⟨t, ht⟩ : ∃ t, t = allP firstP (l.take j) := ⟨_, rfl⟩
      rw [← ht] at hnx hix hfi ⊢
      have Hnx := Lib.hid hnx
      have Hfi := Lib.hid (⟨hfi, hix⟩ : _ ∧ _)
      have HB := Lib.hid (⟨hrow, hB⟩ : _ ∧ _)
      clear hnx hix hfi hrow hri he hb ht
      go_wp2_with fail
      refine (rright_any e _).mono ?_
      rintro r w2 ⟨rfl, hb2⟩
      obtain ⟨hrow, hB⟩ := HB.out
      have hB2 := below_on hB hb2
      have hrow2 := own_below hrow hb2
      obtain ⟨b', off', e', hA', hb', he', d0, d1, d2⟩ := (Hl.out.on hB2 hB2.size).at_ hlt
      have Hee := Lib.hid (⟨hA', he'⟩ : _ ∧ _)
      cases hr : rightB e with
      | false =>
        go_wp2_with fail
        refine (wakes_true _).mono ?_
        rintro e w3 ⟨rfl, hb3⟩
        go_wp2_with fail
        go_ret
        exact ⟨rfl, below_on hB2 hb3⟩
      | true =>
        have hR := rightB_iff.1 hr
        obtain ⟨hlv, hfn, hXi⟩ := next_lv (t := t) (e := e) ⟨Hfi.out.1, hR, by rw [Hfi.out.2]; omega⟩
        rw [Hnx.out] at hlv hfn hXi
        have Hri2 := Lib.hid (Hri.out hR)
        have hfl := Hfi.out.1.2.2.2.2.2.1
        have hkd := hR.2.1
        have hc1 : w2.cell? ⟨b, off + j * 3 + 1, none⟩ = some (.int .i64 e.kd) := by
          injection hA' with hA'
          injection hA' with e1 e2
          have := (hb2.cell (p := ⟨b, off + j * 3 + 1, none⟩) (World.block_lt_of_cell? wr _ c1)).trans c1
          exact this
        have H2 := Lib.hid (⟨hrow2, hB2⟩ : _ ∧ _)
        clear hrow2 hB2 hrow hB HB hb2 d0 d1 d2 hA' he' hb' c0 c1 c2 hr hR Hri Hnx
        obtain ⟨k, hk⟩ : ∃ k, k = e.kd := ⟨_, rfl⟩
        rw [← hk] at hkd hc1 hlv hfn
        clear hk
        obtain ⟨X, hX⟩ : ∃ X, X = allP firstP (l.take (j + 1)) := ⟨_, rfl⟩
        rw [← hX] at hlv hfn hXi Hsn
        have HX := Lib.hid hX
        clear hX
        obtain ⟨tix, ttm, tsm, tlv, tfn⟩ := t
        dsimp only at hlv hfn hfl ⊢
        cases tfn with
        | false =>
          obtain rfl | rfl | rfl | rfl | rfl : k = 0 ∨ k = 1 ∨ k = 2 ∨ k = 3 ∨ k = 4 := by omega
          · skip
            have hlv2 : X.lv = tlv := by rw [hlv]; simp; try omega
            have hfn2 : X.fn = false := by rw [hfn]; simp; try omega
            have HX2 := Lib.hid (⟨hlv2, hfn2⟩ : _ ∧ _)
            clear hlv hfn hlv2 hfn2
            go_wp2_with (at_builtin; refine hold ?_)
            obtain ⟨hrow5, hB5⟩ := H2.out
            refine unhold (wpList_append (.tmp 61) (.tmp 63) 35 Try.underlying35 hi hz0 hz1 hz2 (by rfl) (by omega) (base := w.heap.size) (v := .slice A5 j c5) (n := j) (m := 1) (hrow5.alloc _) (Source.one (size := 1) (cs := [.int .i64 tlv]) rfl (by simp [Value.oneCell']) rfl) (by unfold maxLen; omega) (by omega) (by have := hB5.size; simp; omega) rfl rfl rfl rfl ?_)
            intro v1 w6 L6
            have hB6 : Below w.heap.size w w6 := L6.below (below_al hB5 _) (by have := hB5.size; simp; omega) (fun g hg => (hrow5.lt g hg).1)
            have H6 := Lib.hid (⟨hB6, L6.1⟩ : _ ∧ _)
            clear hB6 L6 hrow5 hB5 H2
            go_wp2_with fail
            go_roundw
            case rel =>
              refine ⟨j + 1, by omega, by go_num, by rw [← HX.out, HX2.out.1], by rw [← HX.out, HX2.out.2], ?_, Hri2.out, H6.out.1⟩
              rw [Hsn.out, List.map_append, HX2.out.1]
              exact H6.out.2
            case measure => simp [intOf]; omega
          · skip
            have hlv2 : X.lv = tlv := by rw [hlv]; simp; try omega
            have hfn2 : X.fn = false := by rw [hfn]; simp; try omega
            have HX2 := Lib.hid (⟨hlv2, hfn2⟩ : _ ∧ _)
            clear hlv hfn hlv2 hfn2
            go_wp2_with (at_builtin; refine hold ?_)
            obtain ⟨hrow5, hB5⟩ := H2.out
            refine unhold (wpList_append (.tmp 61) (.tmp 63) 35 Try.underlying35 hi hz0 hz1 hz2 (by rfl) (by omega) (base := w.heap.size) (v := .slice A5 j c5) (n := j) (m := 1) (hrow5.alloc _) (Source.one (size := 1) (cs := [.int .i64 tlv]) rfl (by simp [Value.oneCell']) rfl) (by unfold maxLen; omega) (by omega) (by have := hB5.size; simp; omega) rfl rfl rfl rfl ?_)
            intro v1 w6 L6
            have hB6 : Below w.heap.size w w6 := L6.below (below_al hB5 _) (by have := hB5.size; simp; omega) (fun g hg => (hrow5.lt g hg).1)
            have H6 := Lib.hid (⟨hB6, L6.1⟩ : _ ∧ _)
            clear hB6 L6 hrow5 hB5 H2
            go_wp2_with fail
            go_roundw
            case rel =>
              refine ⟨j + 1, by omega, by go_num, by rw [← HX.out, HX2.out.1], by rw [← HX.out, HX2.out.2], ?_, Hri2.out, H6.out.1⟩
              rw [Hsn.out, List.map_append, HX2.out.1]
              exact H6.out.2
            case measure => simp [intOf]; omega
          · skip
            have hlv2 : X.lv = 2 := by rw [hlv]; simp; try omega
            have hfn2 : X.fn = false := by rw [hfn]; simp; try omega
            have HX2 := Lib.hid (⟨hlv2, hfn2⟩ : _ ∧ _)
            clear hlv hfn hlv2 hfn2
            go_wp2_with (at_builtin; refine hold ?_)
            obtain ⟨hrow5, hB5⟩ := H2.out
            refine unhold (wpList_append (.tmp 61) (.tmp 63) 35 Try.underlying35 hi hz0 hz1 hz2 (by rfl) (by omega) (base := w.heap.size) (v := .slice A5 j c5) (n := j) (m := 1) (hrow5.alloc _) (Source.one (size := 1) (cs := [.int .i64 2]) rfl (by simp [Value.oneCell']) rfl) (by unfold maxLen; omega) (by omega) (by have := hB5.size; simp; omega) rfl rfl rfl rfl ?_)
            intro v1 w6 L6
            have hB6 : Below w.heap.size w w6 := L6.below (below_al hB5 _) (by have := hB5.size; simp; omega) (fun g hg => (hrow5.lt g hg).1)
            have H6 := Lib.hid (⟨hB6, L6.1⟩ : _ ∧ _)
            clear hB6 L6 hrow5 hB5 H2
            go_wp2_with fail
            go_roundw
            case rel =>
              refine ⟨j + 1, by omega, by go_num, by rw [← HX.out, HX2.out.1], by rw [← HX.out, HX2.out.2], ?_, Hri2.out, H6.out.1⟩
              rw [Hsn.out, List.map_append, HX2.out.1]
              exact H6.out.2
            case measure => simp [intOf]; omega
          · skip
            have hlv2 : X.lv = 1 := by rw [hlv]; simp; try omega
            have hfn2 : X.fn = false := by rw [hfn]; simp; try omega
            have HX2 := Lib.hid (⟨hlv2, hfn2⟩ : _ ∧ _)
            clear hlv hfn hlv2 hfn2
            go_wp2_with (at_builtin; refine hold ?_)
            obtain ⟨hrow5, hB5⟩ := H2.out
            refine unhold (wpList_append (.tmp 61) (.tmp 63) 35 Try.underlying35 hi hz0 hz1 hz2 (by rfl) (by omega) (base := w.heap.size) (v := .slice A5 j c5) (n := j) (m := 1) (hrow5.alloc _) (Source.one (size := 1) (cs := [.int .i64 1]) rfl (by simp [Value.oneCell']) rfl) (by unfold maxLen; omega) (by omega) (by have := hB5.size; simp; omega) rfl rfl rfl rfl ?_)
            intro v1 w6 L6
            have hB6 : Below w.heap.size w w6 := L6.below (below_al hB5 _) (by have := hB5.size; simp; omega) (fun g hg => (hrow5.lt g hg).1)
            have H6 := Lib.hid (⟨hB6, L6.1⟩ : _ ∧ _)
            clear hB6 L6 hrow5 hB5 H2
            go_wp2_with fail
            go_roundw
            case rel =>
              refine ⟨j + 1, by omega, by go_num, by rw [← HX.out, HX2.out.1], by rw [← HX.out, HX2.out.2], ?_, Hri2.out, H6.out.1⟩
              rw [Hsn.out, List.map_append, HX2.out.1]
              exact H6.out.2
            case measure => simp [intOf]; omega
          · by_cases hl4 : tlv = 2
            · subst hl4
              have hlv2 : X.lv = 2 := by rw [hlv]; simp; try omega
              have hfn2 : X.fn = true := by rw [hfn]; simp; try omega
              have HX2 := Lib.hid (⟨hlv2, hfn2⟩ : _ ∧ _)
              clear hlv hfn hlv2 hfn2
              go_wp2_with (at_builtin; refine hold ?_)
              obtain ⟨hrow5, hB5⟩ := H2.out
              refine unhold (wpList_append (.tmp 61) (.tmp 63) 35 Try.underlying35 hi hz0 hz1 hz2 (by rfl) (by omega) (base := w.heap.size) (v := .slice A5 j c5) (n := j) (m := 1) (hrow5.alloc _) (Source.one (size := 1) (cs := [.int .i64 2]) rfl (by simp [Value.oneCell']) rfl) (by unfold maxLen; omega) (by omega) (by have := hB5.size; simp; omega) rfl rfl rfl rfl ?_)
              intro v1 w6 L6
              have hB6 : Below w.heap.size w w6 := L6.below (below_al hB5 _) (by have := hB5.size; simp; omega) (fun g hg => (hrow5.lt g hg).1)
              have H6 := Lib.hid (⟨hB6, L6.1⟩ : _ ∧ _)
              clear hB6 L6 hrow5 hB5 H2
              go_wp2_with fail
              go_roundw
              case rel =>
                refine ⟨j + 1, by omega, by go_num, by rw [← HX.out, HX2.out.1], by rw [← HX.out, HX2.out.2], ?_, Hri2.out, H6.out.1⟩
                rw [Hsn.out, List.map_append, HX2.out.1]
                exact H6.out.2
              case measure => simp [intOf]; omega
            · skip
              have hlv2 : X.lv = tlv := by rw [hlv]; simp; try omega
              have hfn2 : X.fn = false := by rw [hfn]; simp; try omega
              have HX2 := Lib.hid (⟨hlv2, hfn2⟩ : _ ∧ _)
              clear hlv hfn hlv2 hfn2
              have tl : (tlv == 2) = false := by simp; omega
              go_wp2_with (at_builtin; refine hold ?_)
              obtain ⟨hrow5, hB5⟩ := H2.out
              refine unhold (wpList_append (.tmp 61) (.tmp 63) 35 Try.underlying35 hi hz0 hz1 hz2 (by rfl) (by omega) (base := w.heap.size) (v := .slice A5 j c5) (n := j) (m := 1) (hrow5.alloc _) (Source.one (size := 1) (cs := [.int .i64 tlv]) rfl (by simp [Value.oneCell']) rfl) (by unfold maxLen; omega) (by omega) (by have := hB5.size; simp; omega) rfl rfl rfl rfl ?_)
              intro v1 w6 L6
              have hB6 : Below w.heap.size w w6 := L6.below (below_al hB5 _) (by have := hB5.size; simp; omega) (fun g hg => (hrow5.lt g hg).1)
              have H6 := Lib.hid (⟨hB6, L6.1⟩ : _ ∧ _)
              clear hB6 L6 hrow5 hB5 H2
              go_wp2_with fail
              go_roundw
              case rel =>
                refine ⟨j + 1, by omega, by go_num, by rw [← HX.out, HX2.out.1], by rw [← HX.out, HX2.out.2], ?_, Hri2.out, H6.out.1⟩
                rw [Hsn.out, List.map_append, HX2.out.1]
                exact H6.out.2
              case measure => simp [intOf]; omega
        | true =>
          have hl2 : tlv = 2 := hfl rfl
          subst hl2
          obtain rfl | rfl | rfl | rfl | rfl : k = 0 ∨ k = 1 ∨ k = 2 ∨ k = 3 ∨ k = 4 := by omega
          · skip
            have hlv2 : X.lv = 2 := by rw [hlv]; simp; try omega
            have hfn2 : X.fn = true := by rw [hfn]; simp; try omega
            have HX2 := Lib.hid (⟨hlv2, hfn2⟩ : _ ∧ _)
            clear hlv hfn hlv2 hfn2
            go_wp2_with (at_builtin; refine hold ?_)
            obtain ⟨hrow5, hB5⟩ := H2.out
            refine unhold (wpList_append (.tmp 61) (.tmp 63) 35 Try.underlying35 hi hz0 hz1 hz2 (by rfl) (by omega) (base := w.heap.size) (v := .slice A5 j c5) (n := j) (m := 1) (hrow5.alloc _) (Source.one (size := 1) (cs := [.int .i64 2]) rfl (by simp [Value.oneCell']) rfl) (by unfold maxLen; omega) (by omega) (by have := hB5.size; simp; omega) rfl rfl rfl rfl ?_)
            intro v1 w6 L6
            have hB6 : Below w.heap.size w w6 := L6.below (below_al hB5 _) (by have := hB5.size; simp; omega) (fun g hg => (hrow5.lt g hg).1)
            have H6 := Lib.hid (⟨hB6, L6.1⟩ : _ ∧ _)
            clear hB6 L6 hrow5 hB5 H2
            go_wp2_with fail
            go_roundw
            case rel =>
              refine ⟨j + 1, by omega, by go_num, by rw [← HX.out, HX2.out.1], by rw [← HX.out, HX2.out.2], ?_, Hri2.out, H6.out.1⟩
              rw [Hsn.out, List.map_append, HX2.out.1]
              exact H6.out.2
            case measure => simp [intOf]; omega
          · skip
            have hlv2 : X.lv = 2 := by rw [hlv]; simp; try omega
            have hfn2 : X.fn = true := by rw [hfn]; simp; try omega
            have HX2 := Lib.hid (⟨hlv2, hfn2⟩ : _ ∧ _)
            clear hlv hfn hlv2 hfn2
            go_wp2_with (at_builtin; refine hold ?_)
            obtain ⟨hrow5, hB5⟩ := H2.out
            refine unhold (wpList_append (.tmp 61) (.tmp 63) 35 Try.underlying35 hi hz0 hz1 hz2 (by rfl) (by omega) (base := w.heap.size) (v := .slice A5 j c5) (n := j) (m := 1) (hrow5.alloc _) (Source.one (size := 1) (cs := [.int .i64 2]) rfl (by simp [Value.oneCell']) rfl) (by unfold maxLen; omega) (by omega) (by have := hB5.size; simp; omega) rfl rfl rfl rfl ?_)
            intro v1 w6 L6
            have hB6 : Below w.heap.size w w6 := L6.below (below_al hB5 _) (by have := hB5.size; simp; omega) (fun g hg => (hrow5.lt g hg).1)
            have H6 := Lib.hid (⟨hB6, L6.1⟩ : _ ∧ _)
            clear hB6 L6 hrow5 hB5 H2
            go_wp2_with fail
            go_roundw
            case rel =>
              refine ⟨j + 1, by omega, by go_num, by rw [← HX.out, HX2.out.1], by rw [← HX.out, HX2.out.2], ?_, Hri2.out, H6.out.1⟩
              rw [Hsn.out, List.map_append, HX2.out.1]
              exact H6.out.2
            case measure => simp [intOf]; omega
          · skip
            have hlv2 : X.lv = 2 := by rw [hlv]; simp; try omega
            have hfn2 : X.fn = true := by rw [hfn]; simp; try omega
            have HX2 := Lib.hid (⟨hlv2, hfn2⟩ : _ ∧ _)
            clear hlv hfn hlv2 hfn2
            go_wp2_with (at_builtin; refine hold ?_)
            obtain ⟨hrow5, hB5⟩ := H2.out
            refine unhold (wpList_append (.tmp 61) (.tmp 63) 35 Try.underlying35 hi hz0 hz1 hz2 (by rfl) (by omega) (base := w.heap.size) (v := .slice A5 j c5) (n := j) (m := 1) (hrow5.alloc _) (Source.one (size := 1) (cs := [.int .i64 2]) rfl (by simp [Value.oneCell']) rfl) (by unfold maxLen; omega) (by omega) (by have := hB5.size; simp; omega) rfl rfl rfl rfl ?_)
            intro v1 w6 L6
            have hB6 : Below w.heap.size w w6 := L6.below (below_al hB5 _) (by have := hB5.size; simp; omega) (fun g hg => (hrow5.lt g hg).1)
            have H6 := Lib.hid (⟨hB6, L6.1⟩ : _ ∧ _)
            clear hB6 L6 hrow5 hB5 H2
            go_wp2_with fail
            go_roundw
            case rel =>
              refine ⟨j + 1, by omega, by go_num, by rw [← HX.out, HX2.out.1], by rw [← HX.out, HX2.out.2], ?_, Hri2.out, H6.out.1⟩
              rw [Hsn.out, List.map_append, HX2.out.1]
              exact H6.out.2
            case measure => simp [intOf]; omega
          · skip
            have hlv2 : X.lv = 2 := by rw [hlv]; simp; try omega
            have hfn2 : X.fn = true := by rw [hfn]; simp; try omega
            have HX2 := Lib.hid (⟨hlv2, hfn2⟩ : _ ∧ _)
            clear hlv hfn hlv2 hfn2
            go_wp2_with (at_builtin; refine hold ?_)
            obtain ⟨hrow5, hB5⟩ := H2.out
            refine unhold (wpList_append (.tmp 61) (.tmp 63) 35 Try.underlying35 hi hz0 hz1 hz2 (by rfl) (by omega) (base := w.heap.size) (v := .slice A5 j c5) (n := j) (m := 1) (hrow5.alloc _) (Source.one (size := 1) (cs := [.int .i64 2]) rfl (by simp [Value.oneCell']) rfl) (by unfold maxLen; omega) (by omega) (by have := hB5.size; simp; omega) rfl rfl rfl rfl ?_)
            intro v1 w6 L6
            have hB6 : Below w.heap.size w w6 := L6.below (below_al hB5 _) (by have := hB5.size; simp; omega) (fun g hg => (hrow5.lt g hg).1)
            have H6 := Lib.hid (⟨hB6, L6.1⟩ : _ ∧ _)
            clear hB6 L6 hrow5 hB5 H2
            go_wp2_with fail
            go_roundw
            case rel =>
              refine ⟨j + 1, by omega, by go_num, by rw [← HX.out, HX2.out.1], by rw [← HX.out, HX2.out.2], ?_, Hri2.out, H6.out.1⟩
              rw [Hsn.out, List.map_append, HX2.out.1]
              exact H6.out.2
            case measure => simp [intOf]; omega
          · skip
            have hlv2 : X.lv = 2 := by rw [hlv]; simp; try omega
            have hfn2 : X.fn = true := by rw [hfn]; simp; try omega
            have HX2 := Lib.hid (⟨hlv2, hfn2⟩ : _ ∧ _)
            clear hlv hfn hlv2 hfn2
            go_wp2_with (at_builtin; refine hold ?_)
            obtain ⟨hrow5, hB5⟩ := H2.out
            refine unhold (wpList_append (.tmp 61) (.tmp 63) 35 Try.underlying35 hi hz0 hz1 hz2 (by rfl) (by omega) (base := w.heap.size) (v := .slice A5 j c5) (n := j) (m := 1) (hrow5.alloc _) (Source.one (size := 1) (cs := [.int .i64 2]) rfl (by simp [Value.oneCell']) rfl) (by unfold maxLen; omega) (by omega) (by have := hB5.size; simp; omega) rfl rfl rfl rfl ?_)
            intro v1 w6 L6
            have hB6 : Below w.heap.size w w6 := L6.below (below_al hB5 _) (by have := hB5.size; simp; omega) (fun g hg => (hrow5.lt g hg).1)
            have H6 := Lib.hid (⟨hB6, L6.1⟩ : _ ∧ _)
            clear hB6 L6 hrow5 hB5 H2
            go_wp2_with fail
            go_roundw
            case rel =>
              refine ⟨j + 1, by omega, by go_num, by rw [← HX.out, HX2.out.1], by rw [← HX.out, HX2.out.2], ?_, Hri2.out, H6.out.1⟩
              rw [Hsn.out, List.map_append, HX2.out.1]
              exact H6.out.2
            case measure => simp [intOf]; omega
    · obtain rfl : j = n := by omega
      have e1 : l.take j = l := List.take_of_length_le (by rw [Hll.out]; exact Nat.le_refl _)
      rw [e1] at hrow hri ⊢
      have hix := all_right l hri (by rw [Hll.out]; omega)
      rw [Hll.out] at hix
      obtain ⟨t, ht⟩ : ∃ t, t = allP firstP l := ⟨_, rfl⟩
      obtain ⟨A', c', rfl, hc', hrd⟩ := own_rd hrow
      rw [← ht] at hix ⊢
      have Ht := Lib.hid ht
      have HB := Lib.hid (⟨hrd, hB⟩ : _ ∧ _)
      clear ht hrd hrow hri e1
      have hnn : j ≤ 140737488355328 := by omega
      have hnn2 : j ≤ 1000 := by omega
      have hjj : j ≤ c' := hc'
      go_wp2_with fail
      refine (first_any wr).mono ?_
      rintro r w2 ⟨rfl, hb2⟩
      unfold StP.v firstP
      go_wp2_with fail
      have hA := all_any firstP A j c l w2 (Hl.out.on (below_on HB.out.2 hb2) (below_on HB.out.2 hb2).size) hnn
      rw [← Ht.out] at hA
      refine hA.mono ?_
      rintro r w3 ⟨rfl, hb3⟩
      unfold StP.v
      obtain ⟨x, hx⟩ : ∃ x, x = w3.heap.size := ⟨_, rfl⟩
      obtain ⟨w4, hw4⟩ : ∃ w4, w4 = w3.alloc (.cells #[.int .i64 t.ix, .int .i64 t.tm, .int .i64 t.sm, .int .i64 t.lv, .bool t.fn] 23) := ⟨_, rfl⟩
      have bx4 : BoxS w4 x t := by rw [hw4, hx]; exact BoxS.new w3 t
      have hb4 : Below wr.heap.size wr w4 := by rw [hw4]; exact below_al (below_on hb2 hb3) _
      have q1 : (t.lv == t.lv) = true := by simp
      have q2 : (t.fn == t.fn) = true := by simp
      have q3 : (t.ix == (j : Int)) = true := by simpa using hix
      have Hix := Lib.hid hix
      clear hA hb2 hb3 hix
      go_upto_region 17 with fail
      rw [← hw4, ← hx]
      clear hw4 hx
      obtain ⟨k0, k1, k2, k3, k4⟩ := bx4.cells
      have H4 := Lib.hid hb4
      clear bx4 hb4
      go_wp2_with fail
      refine (first_any w4).mono ?_
      rintro r w5 ⟨rfl, hb5⟩
      unfold StP.v firstP
      have hb5' := below_on H4.out hb5
      go_wp2_with fail
      have hL := levels_any firstP A j c l w5 (Hl.out.on (below_on HB.out.2 hb5') (below_on HB.out.2 hb5').size) hnn2
      refine hL.mono ?_
      rintro r w6 ⟨⟨A6, n6, c6, rfl, hc6, hn6, hrd6⟩, hb6⟩
      have hb6' := below_on hb5' hb6
      have hw6 := HB.out.1.on hb6' hb6'.size
      rw [levels_len, Hll.out] at hn6
      have H6 := Lib.hid (⟨hrd6, hw6, hn6⟩ : _ ∧ _ ∧ _)
      clear hL hb5 hb5' hb6 hrd6 hw6 hn6 k0 k1 k2 k3 k4
      go_wp2_with fail
      refine Calls.mono (ints_any A6 A' n6 j c6 c' _ _ w6 H6.out.1 H6.out.2.1 (by have := H6.out.2.2; omega) (by omega)) ?_
      rintro r w7 ⟨rfl, hb7⟩
      rw [eqB_true rfl]
      go_wp2_with fail
      refine (wakes_true w7).mono ?_
      rintro r w8 ⟨rfl, hb8⟩
      go_wp2_with fail
      go_ret
      exact ⟨rfl, below_on (below_on (below_on HB.out.2 hb6') hb7) hb8⟩

end Go.Proofs.Ytbaaghggilfpjaa
