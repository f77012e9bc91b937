/-
  manifest.Check: its contract.
-/
import Derived.Test.YtafeadplmcoilaaDoorNumbd
import Derived.Test.YtafeadplmcoilaaDoorInRow
import Derived.Test.YtafeadplmcoilaaDoorManK
import Derived.Test.YtafeadplmcoilaaDoorNumM
import Derived.ScopeJumps
import Derived.Scope
namespace Go.Proofs.YtafeadplmcoilaaDoor
open Go.RowKit Go.Maps
set_option linter.unusedVariables false
set_option linter.unusedSimpArgs false

theorem okF_iff {m : ManP} : okF m (filesP m) ↔ (m.ss ≠ 0 → FileM m m.ss m.sf) ∧ ∀ (i : Nat) (s : SegP), m.sg[i]? = some s → FileM m s.sq s.fm ∧ (m.ss ≠ 0 → s.sq ≠ m.ss) ∧ ∀ (k : Nat) (t : SegP), k < i → m.sg[k]? = some t → t.sq ≠ s.sq := by
  by_cases h0 : m.ss = 0
  · have e : filesP m = m.sg.map segF := by rw [filesP, snap_none h0, List.nil_append]
    rw [e]
    constructor
    · intro h
      refine ⟨fun k => absurd h0 k, fun i s hi => ?_⟩
      have h1 := h i (segF s) (by rw [List.getElem?_map, hi]; rfl)
      exact ⟨h1.1, fun k => absurd h0 k, fun k t hk ht => h1.2 k (segF t) hk (by rw [List.getElem?_map, ht]; rfl)⟩
    · rintro ⟨-, h⟩ i x hi
      rw [List.getElem?_map] at hi
      obtain ⟨s, hs, rfl⟩ := Option.map_eq_some_iff.1 hi
      have h1 := h i s hs
      refine ⟨h1.1, fun k y hk hy => ?_⟩
      rw [List.getElem?_map] at hy
      obtain ⟨t, ht, rfl⟩ := Option.map_eq_some_iff.1 hy
      exact h1.2.2 k t hk ht
  · have e : filesP m = ⟨4, m.ss, m.sf⟩ :: m.sg.map segF := by rw [filesP, snap_one h0]; rfl
    rw [e]
    constructor
    · intro h
      refine ⟨fun _ => (h 0 _ rfl).1, fun i s hi => ?_⟩
      have h1 := h (i + 1) (segF s) (by rw [List.getElem?_cons_succ, List.getElem?_map, hi]; rfl)
      refine ⟨h1.1, fun _ e => h1.2 0 _ (by omega) rfl e.symm, fun k t hk ht => h1.2 (k + 1) (segF t) (by omega) (by rw [List.getElem?_cons_succ, List.getElem?_map, ht]; rfl)⟩
    · rintro ⟨h2, h⟩ i x hi
      cases i with
      | zero =>
        simp only [List.getElem?_cons_zero, Option.some.injEq] at hi
        subst hi
        exact ⟨h2 h0, fun k y hk => absurd hk (by omega)⟩
      | succ i =>
        rw [List.getElem?_cons_succ, List.getElem?_map] at hi
        obtain ⟨s, hs, rfl⟩ := Option.map_eq_some_iff.1 hi
        have h1 := h i s hs
        refine ⟨h1.1, fun k y hk hy => ?_⟩
        cases k with
        | zero =>
          simp only [List.getElem?_cons_zero, Option.some.injEq] at hy
          subst hy
          exact fun e => h1.2.1 h0 e.symm
        | succ k =>
          rw [List.getElem?_cons_succ, List.getElem?_map] at hy
          obtain ⟨t, ht, rfl⟩ := Option.map_eq_some_iff.1 hy
          exact h1.2.2 k t (by omega) ht
theorem may_iff {m : ManP} : May m ↔ (1 ≤ m.nx ∧ Nu.allNum [m.nx, m.tm] = true) ∧ (0 ≤ m.vt ∧ m.vt ≤ 5) ∧ (m.ss = 0 → m.sf = 0) ∧ m.sg.length ≤ 60 ∧ okF m (filesP m) ∧ RowR m.sg := by
  have ha : Nu.allNum [m.nx, m.tm] = true ↔ (0 ≤ m.nx ∧ m.nx ≤ 1073741824) ∧ (0 ≤ m.tm ∧ m.tm ≤ 1073741824) := by
    simp [Nu.allNum, Nu.isNum_iff]
  constructor
  · intro h
    have hn := h.nx
    refine ⟨⟨hn.1, ha.2 ⟨by omega, h.tm⟩⟩, h.vt, fun h0 => ?_, h.few, okF_iff.2 ⟨fun h0 => ?_, fun i s hi => ?_⟩, fun i s hi => ?_⟩
    · rcases h.snap with k | k
      · exact k.2
      · unfold FileM at k; omega
    · rcases h.snap with k | k
      · exact absurd k.1 h0
      · exact k
    · have h1 := h.segs i s hi
      exact ⟨h1.file, fun _ => h1.snap, h1.new⟩
    · have h1 := h.segs i s hi
      exact ⟨h1.count, h1.first, h1.next⟩
  · rintro ⟨⟨h1, h2⟩, h3, h4, h5, h6, h7⟩
    have h2 := ha.1 h2
    have h6 := okF_iff.1 h6
    refine ⟨⟨h1, h2.1.2⟩, h2.2, h3, h5, ?_, fun i s hi => ?_⟩
    · by_cases h0 : m.ss = 0
      · exact .inl ⟨h0, h4 h0⟩
      · exact .inr (h6.1 h0)
    · have h8 := h6.2 i s hi
      have h9 := h7 i s hi
      refine ⟨h8.1, fun e => ?_, h9.2.1, h8.2.2, h9.2.2, h9.1⟩
      by_cases h0 : m.ss = 0
      · have := h8.1; unfold FileM at this; omega
      · exact h8.2.1 h0 e

/-- A scope with one label: what holds at the label holds at its first coming and at every jump; so the code behind it is walked once. -/
theorem scope_wp {P : Program} {a : Act} {w : World} {Q : Exit → Act → World → Prop} {c rest : Code} (l : Nat) (J : Act → World → Prop) (μ : Act → World → Nat) (hf : findLabel c l = some (.seq .skip rest))
    (first : (∀ a w, J a w → rest.wp P (Exit.jump l J Q) a w) → c.wp P (Exit.jump l J Q) a w)
    (pass : ∀ a w, J a w → rest.wp P (Exit.jump l (fun a' w' => J a' w' ∧ μ a' w' < μ a w) Q) a w) : (Code.scope c).wp P Q a w :=
  wp_scope_jumps l J μ hf (first fun a w h => wp_mono (pass a w h) fun e a' w' hq => by
    cases e with
    | goto l' => exact ⟨hq.1, hq.2.1⟩
    | _ => exact hq) fun a w h => wp_seq (wp_skip (pass a w h))
theorem heap_set {W : World} {z i : Nat} {t : TypeId} {cs : Array Value} {fz : Nat × Nat} (h : W.heap[z]? = some (.cells cs t fz)) (v : Value) : (W.setCell ⟨z, i, none⟩ v).heap[z]? = some (.cells (cs.setIfInBounds i v) t fz) := by
  obtain ⟨hlt, hk⟩ := Array.getElem?_eq_some_iff.1 h
  show (W.heap.modify z _)[z]? = _
  rw [Array.getElem?_eq_getElem (by rw [Array.size_modify]; exact hlt), Array.getElem_modify_self, hk]
  rfl
/-- What holds where it may not be. -/
def CJ (w : World) (m : ManP) (a : Act) (W : World) : Prop :=
  ∃ (u0 u1 u2 u3 u4 u5 u6 u7 u8 u9 u10 u11 u12 u13 u14 u15 u16 u17 u18 u19 u20 u21 u22 u23 u24 u25 u26 u27 u28 u29 u30 u31 u32 u33 u34 u35 u36 u37 u38 u39 u40 u41 u42 u43 u44 u45 u46 u47 u48 u49 : Value), Below w.heap.size w W ∧ ¬ May m ∧ a = { tmps := #[u0, u1, u2, u3, u4, u5, u6, u7, u8, u9, u10, u11, u12, u13, u14, u15, u16, u17, u18, u19, u20, u21, u22, u23, u24, u25, u26, u27, u28, u29, u30, u31, u32, u33, u34, u35, u36, u37, u38, u39, u40, u41, u42, u43, u44, u45, u46, u47, u48, u49], defers := [] }

set_option maxRecDepth 100000 in
set_option maxHeartbeats 8000000 in
theorem check_any (m : ManP) (A : Option Addr) (n c : Nat) (w : World) (hS : Sg w w.heap.size A n m.sg) (hn6 : n ≤ 1000000) (hk : MOk m) :
    Calls Tryd.prog 18 #[manV m (.slice A n c)] w fun e w' => (∃ r, CheckIs m r ∧ e = .returned (.int .i64 r)) ∧ Below w.heap.size w w' := by
  have Hl := Lib.hid (⟨hS.len, hk⟩ : _ ∧ _)
  obtain ⟨w1, z, hw1, hz, b1, bx⟩ := box_new (w := w) m (.slice A n c)
  obtain ⟨z2, hz2⟩ : ∃ z2, z2 = w1.heap.size := ⟨_, rfl⟩
  have hzz : z + 1 = z2 := by rw [hz2, hw1, hz]; simp
  obtain ⟨w2, hw2⟩ : ∃ w2, w2 = w1.alloc (.cells #[.int .i64 m.nx, .int .i64 m.tm] 3) := ⟨_, rfl⟩
  have b2 : Below w1.heap.size w1 w2 := by rw [hw2]; exact below_al (below_d0 w1) _
  have hr2 : Rd w2 w2.heap.size .i64 (some ⟨z2, 0, none⟩) 2 [m.nx, m.tm] := by rw [hw2]; exact Nu.Rd.made w1 .i64 3 [m.nx, m.tm] hz2
  have B2 := b1.trans (b2.mono b1.size)
  have HX := Lib.hid (⟨bx, b1, bx.below b2, B2, hS.on B2 B2.size, hr2⟩ : _ ∧ _ ∧ _ ∧ _ ∧ _ ∧ _)
  have HW := Lib.hid (⟨hw1, hz, hw2, hzz⟩ : _ ∧ _ ∧ _ ∧ _)
  have hb := Lib.hid (show Below w.heap.size w (w.alloc (.cells #[.int .i64 m.nx, .int .i64 m.tm, .int .i64 m.vt, .int .i64 m.ss, .int .i64 m.sf, .slice A n c] 26)) from by rw [← HW.out.1]; exact HX.out.2.1)
  clear bx b1 hS hw1 hz hz2 hzz hw2 b2 hr2 B2 hk
  unfold manV
  go_enter Tryd.func18, Tryd.ntmps18
  go_wp2_with fail
  refine scope_wp 0 (CJ w m) (fun _ _ => 0) rfl ?first ?pass
  case pass =>
    rintro a W ⟨u0, u1, u2, u3, u4, u5, u6, u7, u8, u9, u10, u11, u12, u13, u14, u15, u16, u17, u18, u19, u20, u21, u22, u23, u24, u25, u26, u27, u28, u29, u30, u31, u32, u33, u34, u35, u36, u37, u38, u39, u40, u41, u42, u43, u44, u45, u46, u47, u48, u49, hB, hno, rfl⟩
    have H := Lib.hid (⟨hB, hno⟩ : _ ∧ _)
    clear hB hno
    go_wp2_with fail
    simp only [Exit.jump]
    first
    | (go_ret; exact ⟨⟨_, chkNo H.out.2, rfl⟩, H.out.1⟩)
    | exact bodyPost_ret (v := .int .i64 2) (by simp [results, Tryd.results18, go_sem]) rfl ⟨⟨_, chkNo H.out.2, rfl⟩, H.out.1⟩
  case first =>
    intro hrest
    by_cases h1 : m.nx < 1
    · have q1 : decide (m.nx < 1) = true := decide_eq_true h1
      have Hn := Lib.hid (show ¬ May m from fun h => by have := h.nx; omega)
      go_wp2_with fail
      refine wp_goto ⟨rfl, _, _, _, _, _, _, _, _, _, _, _, _, _, _, _, _, _, _, _, _, _, _, _, _, _, _, _, _, _, _, _, _, _, _, _, _, _, _, _, _, _, _, _, _, _, _, _, _, _, _, hb.out, Hn.out, rfl⟩
    have q1 : decide (m.nx < 1) = false := decide_eq_false h1
    cases h2 : Nu.allNum [m.nx, m.tm]
    case false =>
      have Hn := Lib.hid (show ¬ May m from fun h => by have h3 := (may_iff.1 h).1.2; rw [h2] at h3; cases h3)
      go_wp2_with fail
      rw [← HW.out.2.1, ← HW.out.1, ← HW.out.2.2.1]
      rw [HW.out.2.2.2]
      refine Calls.mono (Nu.is_any (some ⟨z2, 0, none⟩) 2 2 [m.nx, m.tm] w2 HX.out.2.2.2.2.2 (by omega)) ?_
      rintro e wv ⟨rfl, rfl⟩
      rw [h2]
      obtain ⟨x0, x1, x2, x3, x4, x5⟩ := HX.out.2.2.1.cells
      go_wp2_with fail
      refine wp_goto ⟨rfl, _, _, _, _, _, _, _, _, _, _, _, _, _, _, _, _, _, _, _, _, _, _, _, _, _, _, _, _, _, _, _, _, _, _, _, _, _, _, _, _, _, _, _, _, _, _, _, _, _, _, HX.out.2.2.2.1, Hn.out, rfl⟩
    by_cases h3 : m.vt < 0
    · have q3 : decide (m.vt < 0) = true := decide_eq_true h3
      have Hn := Lib.hid (show ¬ May m from fun h => by have := h.vt; omega)
      go_wp2_with fail
      rw [← HW.out.2.1, ← HW.out.1, ← HW.out.2.2.1]
      rw [HW.out.2.2.2]
      refine Calls.mono (Nu.is_any (some ⟨z2, 0, none⟩) 2 2 [m.nx, m.tm] w2 HX.out.2.2.2.2.2 (by omega)) ?_
      rintro e wv ⟨rfl, rfl⟩
      rw [h2]
      obtain ⟨x0, x1, x2, x3, x4, x5⟩ := HX.out.2.2.1.cells
      go_wp2_with fail
      refine wp_goto ⟨rfl, _, _, _, _, _, _, _, _, _, _, _, _, _, _, _, _, _, _, _, _, _, _, _, _, _, _, _, _, _, _, _, _, _, _, _, _, _, _, _, _, _, _, _, _, _, _, _, _, _, _, HX.out.2.2.2.1, Hn.out, rfl⟩
    have q3 : decide (m.vt < 0) = false := decide_eq_false h3
    by_cases h4 : 5 < m.vt
    · have q4 : decide (5 < m.vt) = true := decide_eq_true h4
      have Hn := Lib.hid (show ¬ May m from fun h => by have := h.vt; omega)
      go_wp2_with fail
      rw [← HW.out.2.1, ← HW.out.1, ← HW.out.2.2.1]
      rw [HW.out.2.2.2]
      refine Calls.mono (Nu.is_any (some ⟨z2, 0, none⟩) 2 2 [m.nx, m.tm] w2 HX.out.2.2.2.2.2 (by omega)) ?_
      rintro e wv ⟨rfl, rfl⟩
      rw [h2]
      obtain ⟨x0, x1, x2, x3, x4, x5⟩ := HX.out.2.2.1.cells
      go_wp2_with fail
      refine wp_goto ⟨rfl, _, _, _, _, _, _, _, _, _, _, _, _, _, _, _, _, _, _, _, _, _, _, _, _, _, _, _, _, _, _, _, _, _, _, _, _, _, _, _, _, _, _, _, _, _, _, _, _, _, _, HX.out.2.2.2.1, Hn.out, rfl⟩
    have q4 : decide (5 < m.vt) = false := decide_eq_false h4
    have H14 := Lib.hid (show (1 ≤ m.nx ∧ Nu.allNum [m.nx, m.tm] = true) ∧ (0 ≤ m.vt ∧ m.vt ≤ 5) from ⟨⟨by omega, h2⟩, by omega, by omega⟩)
    clear h1 h3 h4
    by_cases h5 : m.ss = 0
    · have q5 : (m.ss == 0) = true := by simpa using h5
      by_cases h5b : m.sf = 0
      · have q5b : (m.sf != 0) = false := by simpa using h5b
        have H5 := Lib.hid (show m.ss = 0 → m.sf = 0 from fun _ => h5b)
        clear h5 h5b
        by_cases h6 : 60 < n
        · have q6 : decide ((60 : Int) < (n : Int)) = true := by simp; omega
          have Hn := Lib.hid (show ¬ May m from fun h => by have k := h.few; rw [Hl.out.1] at k; omega)
          go_wp2_with fail
          rw [← HW.out.2.1, ← HW.out.1, ← HW.out.2.2.1]
          rw [HW.out.2.2.2]
          refine Calls.mono (Nu.is_any (some ⟨z2, 0, none⟩) 2 2 [m.nx, m.tm] w2 HX.out.2.2.2.2.2 (by omega)) ?_
          rintro e wv ⟨rfl, rfl⟩
          rw [h2]
          obtain ⟨x0, x1, x2, x3, x4, x5⟩ := HX.out.2.2.1.cells
          go_wp2_with fail
          refine wp_goto ⟨rfl, _, _, _, _, _, _, _, _, _, _, _, _, _, _, _, _, _, _, _, _, _, _, _, _, _, _, _, _, _, _, _, _, _, _, _, _, _, _, _, _, _, _, _, _, _, _, _, _, _, _, HX.out.2.2.2.1, Hn.out, rfl⟩
        have q6 : decide ((60 : Int) < (n : Int)) = false := by simp; omega
        have h60 : n ≤ 60 := by omega
        clear h6
        go_wp2_with fail
        rw [← HW.out.2.1, ← HW.out.1, ← HW.out.2.2.1]
        rw [HW.out.2.2.2]
        refine Calls.mono (Nu.is_any (some ⟨z2, 0, none⟩) 2 2 [m.nx, m.tm] w2 HX.out.2.2.2.2.2 (by omega)) ?_
        rintro e wv ⟨rfl, rfl⟩
        rw [h2]
        obtain ⟨x0, x1, x2, x3, x4, x5⟩ := HX.out.2.2.1.cells
        go_wp2_with fail
        refine Calls.mono (numbered_any m A n c w2 HX.out.2.2.2.2.1 hn6 Hl.out.2) ?_
        rintro e w3 ⟨⟨b, hbv, rfl⟩, b3⟩
        have H3 := Lib.hid (⟨HX.out.2.2.2.1.trans (b3.mono HX.out.2.2.2.1.size), HX.out.2.2.1.below b3, HX.out.2.2.2.2.1.on b3 b3.size, hbv⟩ : _ ∧ _ ∧ _ ∧ _)
        clear b3 hbv x0 x1 x2 x3 x4 x5 q1 q3 q4 q6 h2 hb
        obtain ⟨x0, x1, x2, x3, x4, x5⟩ := H3.out.2.1.cells
        cases b
        case false =>
          have Hn := Lib.hid (show ¬ May m from fun h => by have k := H3.out.2.2.2.2 (may_iff.1 h).2.2.2.2.1; cases k)
          go_wp2_with fail
          refine wp_goto ⟨rfl, _, _, _, _, _, _, _, _, _, _, _, _, _, _, _, _, _, _, _, _, _, _, _, _, _, _, _, _, _, _, _, _, _, _, _, _, _, _, _, _, _, _, _, _, _, _, _, _, _, _, H3.out.1, Hn.out, rfl⟩
        go_wp2_with fail
        refine Calls.mono (inRow_any m.sg A n c w3 H3.out.2.2.1 h60) ?_
        rintro e w4 ⟨⟨b, hbv, rfl⟩, b4⟩
        have H4 := Lib.hid (⟨H3.out.1.trans (b4.mono H3.out.1.size), hbv⟩ : _ ∧ _)
        clear b4 hbv x0 x1 x2 x3 x4 x5
        cases b
        case false =>
          have Hn := Lib.hid (show ¬ May m from fun h => by have k := H4.out.2.2 (may_iff.1 h).2.2.2.2.2; cases k)
          go_wp2_with fail
          refine wp_goto ⟨rfl, _, _, _, _, _, _, _, _, _, _, _, _, _, _, _, _, _, _, _, _, _, _, _, _, _, _, _, _, _, _, _, _, _, _, _, _, _, _, _, _, _, _, _, _, _, _, _, _, _, _, H4.out.1, Hn.out, rfl⟩
        have Hy := Lib.hid (show CheckIs m 0 from .inl ⟨may_iff.2 ⟨H14.out.1, H14.out.2, H5.out, by rw [Hl.out.1]; exact h60, H3.out.2.2.2.1 (by first | rfl | trivial), H4.out.2.1 (by first | rfl | trivial)⟩, rfl⟩)
        go_wp2_with fail
        simp only [Exit.jump]
        first
        | (go_ret; exact ⟨⟨_, Hy.out, rfl⟩, H4.out.1⟩)
        | exact bodyPost_ret (v := .int .i64 0) (by simp [results, Tryd.results18, go_sem]) rfl ⟨⟨_, Hy.out, rfl⟩, H4.out.1⟩
      · have q5b : (m.sf != 0) = true := by simpa using h5b
        have Hn := Lib.hid (show ¬ May m from fun h => h5b ((may_iff.1 h).2.2.1 h5))
        clear h5 h5b
        go_wp2_with fail
        rw [← HW.out.2.1, ← HW.out.1, ← HW.out.2.2.1]
        rw [HW.out.2.2.2]
        refine Calls.mono (Nu.is_any (some ⟨z2, 0, none⟩) 2 2 [m.nx, m.tm] w2 HX.out.2.2.2.2.2 (by omega)) ?_
        rintro e wv ⟨rfl, rfl⟩
        rw [h2]
        obtain ⟨x0, x1, x2, x3, x4, x5⟩ := HX.out.2.2.1.cells
        go_wp2_with fail
        refine wp_goto ⟨rfl, _, _, _, _, _, _, _, _, _, _, _, _, _, _, _, _, _, _, _, _, _, _, _, _, _, _, _, _, _, _, _, _, _, _, _, _, _, _, _, _, _, _, _, _, _, _, _, _, _, _, HX.out.2.2.2.1, Hn.out, rfl⟩
    · have q5 : (m.ss == 0) = false := by simpa using h5
      have H5 := Lib.hid (show m.ss = 0 → m.sf = 0 from fun h => absurd h h5)
      clear h5
      by_cases h6 : 60 < n
      · have q6 : decide ((60 : Int) < (n : Int)) = true := by simp; omega
        have Hn := Lib.hid (show ¬ May m from fun h => by have k := h.few; rw [Hl.out.1] at k; omega)
        go_wp2_with fail
        rw [← HW.out.2.1, ← HW.out.1, ← HW.out.2.2.1]
        rw [HW.out.2.2.2]
        refine Calls.mono (Nu.is_any (some ⟨z2, 0, none⟩) 2 2 [m.nx, m.tm] w2 HX.out.2.2.2.2.2 (by omega)) ?_
        rintro e wv ⟨rfl, rfl⟩
        rw [h2]
        obtain ⟨x0, x1, x2, x3, x4, x5⟩ := HX.out.2.2.1.cells
        go_wp2_with fail
        refine wp_goto ⟨rfl, _, _, _, _, _, _, _, _, _, _, _, _, _, _, _, _, _, _, _, _, _, _, _, _, _, _, _, _, _, _, _, _, _, _, _, _, _, _, _, _, _, _, _, _, _, _, _, _, _, _, HX.out.2.2.2.1, Hn.out, rfl⟩
      have q6 : decide ((60 : Int) < (n : Int)) = false := by simp; omega
      have h60 : n ≤ 60 := by omega
      clear h6
      go_wp2_with fail
      rw [← HW.out.2.1, ← HW.out.1, ← HW.out.2.2.1]
      rw [HW.out.2.2.2]
      refine Calls.mono (Nu.is_any (some ⟨z2, 0, none⟩) 2 2 [m.nx, m.tm] w2 HX.out.2.2.2.2.2 (by omega)) ?_
      rintro e wv ⟨rfl, rfl⟩
      rw [h2]
      obtain ⟨x0, x1, x2, x3, x4, x5⟩ := HX.out.2.2.1.cells
      go_wp2_with fail
      refine Calls.mono (numbered_any m A n c w2 HX.out.2.2.2.2.1 hn6 Hl.out.2) ?_
      rintro e w3 ⟨⟨b, hbv, rfl⟩, b3⟩
      have H3 := Lib.hid (⟨HX.out.2.2.2.1.trans (b3.mono HX.out.2.2.2.1.size), HX.out.2.2.1.below b3, HX.out.2.2.2.2.1.on b3 b3.size, hbv⟩ : _ ∧ _ ∧ _ ∧ _)
      clear b3 hbv x0 x1 x2 x3 x4 x5 q1 q3 q4 q6 h2 hb
      obtain ⟨x0, x1, x2, x3, x4, x5⟩ := H3.out.2.1.cells
      cases b
      case false =>
        have Hn := Lib.hid (show ¬ May m from fun h => by have k := H3.out.2.2.2.2 (may_iff.1 h).2.2.2.2.1; cases k)
        go_wp2_with fail
        refine wp_goto ⟨rfl, _, _, _, _, _, _, _, _, _, _, _, _, _, _, _, _, _, _, _, _, _, _, _, _, _, _, _, _, _, _, _, _, _, _, _, _, _, _, _, _, _, _, _, _, _, _, _, _, _, _, H3.out.1, Hn.out, rfl⟩
      go_wp2_with fail
      refine Calls.mono (inRow_any m.sg A n c w3 H3.out.2.2.1 h60) ?_
      rintro e w4 ⟨⟨b, hbv, rfl⟩, b4⟩
      have H4 := Lib.hid (⟨H3.out.1.trans (b4.mono H3.out.1.size), hbv⟩ : _ ∧ _)
      clear b4 hbv x0 x1 x2 x3 x4 x5
      cases b
      case false =>
        have Hn := Lib.hid (show ¬ May m from fun h => by have k := H4.out.2.2 (may_iff.1 h).2.2.2.2.2; cases k)
        go_wp2_with fail
        refine wp_goto ⟨rfl, _, _, _, _, _, _, _, _, _, _, _, _, _, _, _, _, _, _, _, _, _, _, _, _, _, _, _, _, _, _, _, _, _, _, _, _, _, _, _, _, _, _, _, _, _, _, _, _, _, _, H4.out.1, Hn.out, rfl⟩
      have Hy := Lib.hid (show CheckIs m 0 from .inl ⟨may_iff.2 ⟨H14.out.1, H14.out.2, H5.out, by rw [Hl.out.1]; exact h60, H3.out.2.2.2.1 (by first | rfl | trivial), H4.out.2.1 (by first | rfl | trivial)⟩, rfl⟩)
      go_wp2_with fail
      simp only [Exit.jump]
      first
      | (go_ret; exact ⟨⟨_, Hy.out, rfl⟩, H4.out.1⟩)
      | exact bodyPost_ret (v := .int .i64 0) (by simp [results, Tryd.results18, go_sem]) rfl ⟨⟨_, Hy.out, rfl⟩, H4.out.1⟩
end Go.Proofs.YtafeadplmcoilaaDoor
