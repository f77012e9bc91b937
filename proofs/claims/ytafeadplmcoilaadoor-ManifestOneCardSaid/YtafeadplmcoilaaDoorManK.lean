/-
  The document's Check: its contract.
-/
import Derived.Test.YtafeadplmcoilaaDoorManC
namespace Go.Proofs.YtafeadplmcoilaaDoor
open Go.RowKit Go.Maps
set_option linter.unusedVariables false
set_option linter.unusedSimpArgs false

theorem chkNo {m : ManP} (h : ¬ May m) : CheckIs m 2 := .inr ⟨h, rfl⟩
theorem may_snap {m : ManP} (h : May m) (h0 : ¬ (m.ss = 0 ∧ m.sf = 0)) : fileB m m.ss m.sf = true := by
  rcases h.snap with h | h
  · exact absurd h h0
  · exact fileB_iff.2 h

set_option maxRecDepth 100000 in
set_option maxHeartbeats 8000000 in
theorem rcheck_any (m : ManP) (A : Option Addr) (n c : Nat) (w : World) (hS : Sg w w.heap.size A n m.sg) (hn6 : n ≤ 1000000) :
    Calls Tryd.prog 19 #[manV m (.slice A n c)] w fun e w' => (∃ r, CheckIs m r ∧ e = .returned (.int .i64 r)) ∧ Below w.heap.size w w' := by
  have Hl := Lib.hid hS.len
  obtain ⟨w1, z, hw1, hz, b1, bx⟩ := box_new (w := w) m (.slice A n c)
  have HX := Lib.hid (⟨bx, b1, hS.on b1 b1.size⟩ : _ ∧ _ ∧ _)
  have HW := Lib.hid (⟨hw1, hz⟩ : _ ∧ _)
  have hb := Lib.hid (show Below w.heap.size w (w.alloc (.cells #[.int .i64 m.nx, .int .i64 m.tm, .int .i64 m.vt, .int .i64 m.ss, .int .i64 m.sf, .slice A n c] 26)) from by rw [← HW.out.1]; exact HX.out.2.1)
  clear bx b1 hS hw1 hz
  unfold manV
  cases h1 : inM m.nx 1 1073741824
  case false =>
    have Hn := Lib.hid (chkNo (m := m) fun h => by have k := inM_yes h.nx; rw [h1] at k; cases k)
    go_enter Tryd.func19, Tryd.ntmps19
    go_wp2_with (go_at_call 41; refine Calls.mono (rwithin_any _ _ _ _) ?_; rintro e w' ⟨rfl, rfl⟩; (try rw [h1]))
    go_ret
    exact ⟨⟨_, Hn.out, rfl⟩, hb.out⟩
  cases h2 : inM m.tm 0 1073741824
  case false =>
    have Hn := Lib.hid (chkNo (m := m) fun h => by have k := inM_yes h.tm; rw [h2] at k; cases k)
    go_enter Tryd.func19, Tryd.ntmps19
    go_wp2_with (go_at_call 41; refine Calls.mono (rwithin_any _ _ _ _) ?_; rintro e w' ⟨rfl, rfl⟩; (try rw [h1]); (try rw [h2]))
    go_ret
    exact ⟨⟨_, Hn.out, rfl⟩, hb.out⟩
  cases h3 : inM m.vt 0 5
  case false =>
    have Hn := Lib.hid (chkNo (m := m) fun h => by have k := inM_yes h.vt; rw [h3] at k; cases k)
    go_enter Tryd.func19, Tryd.ntmps19
    go_wp2_with (go_at_call 41; refine Calls.mono (rwithin_any _ _ _ _) ?_; rintro e w' ⟨rfl, rfl⟩; (try rw [h1]); (try rw [h2]); (try rw [h3]))
    go_ret
    exact ⟨⟨_, Hn.out, rfl⟩, hb.out⟩
  by_cases h4 : 60 < n
  case pos =>
    have q4 : decide ((60 : Int) < (n : Int)) = true := by simp; omega
    have Hn := Lib.hid (chkNo (m := m) fun h => by have k := h.few; rw [Hl.out] at k; omega)
    go_enter Tryd.func19, Tryd.ntmps19
    go_wp2_with (go_at_call 41; refine Calls.mono (rwithin_any _ _ _ _) ?_; rintro e w' ⟨rfl, rfl⟩; (try rw [h1]); (try rw [h2]); (try rw [h3]))
    go_ret
    exact ⟨⟨_, Hn.out, rfl⟩, hb.out⟩
  have q4 : decide ((60 : Int) < (n : Int)) = false := by simp; omega
  have h60 : n ≤ 60 := by omega
  have HM := Lib.hid (⟨inM_iff.1 h1, inM_iff.1 h2, inM_iff.1 h3⟩ : _ ∧ _ ∧ _)
  by_cases h5 : m.ss = 0 ∧ m.sf = 0
  case pos =>
    have he : ∀ w, (Op.equalIn 10000 23 (.agg #[.int .i64 m.ss, .int .i64 m.sf]) (.agg #[.int .i64 0, .int .i64 0])).run Tryd.prog w = .ok true w := fun w => by rw [equal_rf, decide_eq_true h5]
    have H5 := Lib.hid h5
    clear h5 h4
    go_enter Tryd.func19, Tryd.ntmps19
    go_wp2_with (go_at_call 41; refine Calls.mono (rwithin_any _ _ _ _) ?_; rintro e w' ⟨rfl, rfl⟩; (try rw [h1]); (try rw [h2]); (try rw [h3]))
    rw [← HW.out.1, ← HW.out.2]
    clear q4 he h1 h2 h3 hb
    go_loopw [3] (fun v wr => ∃ k : Nat, k ≤ n ∧ v = .int .i64 k ∧ (∀ (j : Nat) (t : SegP), j < k → m.sg[j]? = some t → SegM m j t) ∧ Below w1.heap.size w1 wr) (fun v _ => n - (intOf v).toNat)
    case atStart => exact ⟨0, Nat.zero_le _, rfl, fun j t h => absurd h (by omega), Below.refl _ _⟩
    obtain ⟨k, hk, rfl, hok, hB⟩ := hrel
    have HB := Lib.hid (⟨HX.out.2.1.trans (hB.mono HX.out.2.1.size), hB, hok⟩ : _ ∧ _ ∧ _)
    obtain ⟨x0, x1, x2, x3, x4, x5⟩ := (HX.out.1.below hB).cells
    clear hok
    by_cases hlt : k < n
    · obtain ⟨b, off, s, hA, hb', hs, d0, d1, d2, d3⟩ := (HX.out.2.2.on hB hB.size).at_ hlt
      have Hs := Lib.hid hs
      have HS := Lib.hid (HX.out.2.2.on hB hB.size)
      clear hs hB d0 d1 d2 d3 hA hb'
      go_wp2_with fail
      refine Calls.mono (rseg_any m A n c k s wr HM.out.1 HS.out hlt h60 Hs.out HB.out.2.2) ?_
      rintro e w4 ⟨⟨r, hr, rfl⟩, b4⟩
      have H4 := Lib.hid (⟨HB.out.1.trans (b4.mono HB.out.1.size), HB.out.2.1.trans (b4.mono HB.out.2.1.size), hr⟩ : _ ∧ _ ∧ _)
      clear b4 hr x0 x1 x2 x3 x4 x5
      cases r
      · have Hn := Lib.hid (chkNo (m := m) fun h => by have k1 := H4.out.2.2.2 (h.segs _ _ Hs.out); cases k1)
        go_wp2_with fail
        go_ret
        exact ⟨⟨_, Hn.out, rfl⟩, H4.out.1⟩
      · go_wp2_with fail
        go_roundw
        case rel =>
          refine ⟨k + 1, by omega, by go_num, fun j u hj hu => ?_, H4.out.2.1⟩
          by_cases hjk : j = k
          · subst hjk
            rw [Hs.out] at hu
            rw [← Option.some.inj hu]
            exact H4.out.2.2.1 rfl
          · exact HB.out.2.2 j u (by omega) hu
        case measure => simp [intOf]; omega
    have Hy := Lib.hid (show CheckIs m 0 from .inl ⟨⟨HM.out.1, HM.out.2.1, HM.out.2.2, by rw [Hl.out]; exact h60, .inl H5.out, fun i s hi => HB.out.2.2 i s (by have h1 := (List.getElem?_eq_some_iff.1 hi).1; rw [Hl.out] at h1; omega) hi⟩, rfl⟩)
    clear hB
    go_wp2_with fail
    go_ret
    exact ⟨⟨_, Hy.out, rfl⟩, HB.out.1⟩
  have he : ∀ w, (Op.equalIn 10000 23 (.agg #[.int .i64 m.ss, .int .i64 m.sf]) (.agg #[.int .i64 0, .int .i64 0])).run Tryd.prog w = .ok false w := fun w => by rw [equal_rf, decide_eq_false h5]
  have H5 := Lib.hid h5
  clear h5 h4
  cases h6 : fileB m m.ss m.sf
  case false =>
    have Hn := Lib.hid (chkNo (m := m) fun h => by have k := may_snap h H5.out; rw [h6] at k; cases k)
    go_enter Tryd.func19, Tryd.ntmps19
    go_wp2_with (go_at_call 41; refine Calls.mono (rwithin_any _ _ _ _) ?_; rintro e w' ⟨rfl, rfl⟩; (try rw [h1]); (try rw [h2]); (try rw [h3]))
    rw [← HW.out.1, ← HW.out.2]
    refine Calls.mono (rfile_any m (.slice A n c) m.ss m.sf w1 HM.out.1) ?_
    rintro e w3 ⟨rfl, b3⟩
    rw [h6]
    have H3 := Lib.hid (⟨HX.out.2.1.trans (b3.mono HX.out.2.1.size), b3, HX.out.1.below b3⟩ : _ ∧ _ ∧ _)
    clear b3
    go_wp2_with fail
    go_ret
    exact ⟨⟨_, Hn.out, rfl⟩, H3.out.1⟩
  have H6 := Lib.hid (fileB_iff.1 h6)
  go_enter Tryd.func19, Tryd.ntmps19
  go_wp2_with (go_at_call 41; refine Calls.mono (rwithin_any _ _ _ _) ?_; rintro e w' ⟨rfl, rfl⟩; (try rw [h1]); (try rw [h2]); (try rw [h3]))
  rw [← HW.out.1, ← HW.out.2]
  refine Calls.mono (rfile_any m (.slice A n c) m.ss m.sf w1 HM.out.1) ?_
  rintro e w3 ⟨rfl, b3⟩
  rw [h6]
  have H3 := Lib.hid (⟨HX.out.2.1.trans (b3.mono HX.out.2.1.size), b3, HX.out.1.below b3⟩ : _ ∧ _ ∧ _)
  clear b3 h6 h1 h2 h3 q4 he hb
  obtain ⟨x0, x1, x2, x3, x4, x5⟩ := H3.out.2.2.cells
  go_wp2_with fail
  clear x0 x1 x2 x3 x4 x5
  go_loopw [3] (fun v wr => ∃ k : Nat, k ≤ n ∧ v = .int .i64 k ∧ (∀ (j : Nat) (t : SegP), j < k → m.sg[j]? = some t → SegM m j t) ∧ Below w1.heap.size w1 wr) (fun v _ => n - (intOf v).toNat)
  case atStart => exact ⟨0, Nat.zero_le _, rfl, fun j t h => absurd h (by omega), H3.out.2.1⟩
  obtain ⟨k, hk, rfl, hok, hB⟩ := hrel
  have HB := Lib.hid (⟨HX.out.2.1.trans (hB.mono HX.out.2.1.size), hB, hok⟩ : _ ∧ _ ∧ _)
  obtain ⟨x0, x1, x2, x3, x4, x5⟩ := (HX.out.1.below hB).cells
  clear hok
  by_cases hlt : k < n
  · obtain ⟨b, off, s, hA, hb', hs, d0, d1, d2, d3⟩ := (HX.out.2.2.on hB hB.size).at_ hlt
    have Hs := Lib.hid hs
    have HS := Lib.hid (HX.out.2.2.on hB hB.size)
    clear hs hB d0 d1 d2 d3 hA hb'
    go_wp2_with fail
    refine Calls.mono (rseg_any m A n c k s wr HM.out.1 HS.out hlt h60 Hs.out HB.out.2.2) ?_
    rintro e w4 ⟨⟨r, hr, rfl⟩, b4⟩
    have H4 := Lib.hid (⟨HB.out.1.trans (b4.mono HB.out.1.size), HB.out.2.1.trans (b4.mono HB.out.2.1.size), hr⟩ : _ ∧ _ ∧ _)
    clear b4 hr x0 x1 x2 x3 x4 x5
    cases r
    · have Hn := Lib.hid (chkNo (m := m) fun h => by have k1 := H4.out.2.2.2 (h.segs _ _ Hs.out); cases k1)
      go_wp2_with fail
      go_ret
      exact ⟨⟨_, Hn.out, rfl⟩, H4.out.1⟩
    · go_wp2_with fail
      go_roundw
      case rel =>
        refine ⟨k + 1, by omega, by go_num, fun j u hj hu => ?_, H4.out.2.1⟩
        by_cases hjk : j = k
        · subst hjk
          rw [Hs.out] at hu
          rw [← Option.some.inj hu]
          exact H4.out.2.2.1 rfl
        · exact HB.out.2.2 j u (by omega) hu
      case measure => simp [intOf]; omega
  have Hy := Lib.hid (show CheckIs m 0 from .inl ⟨⟨HM.out.1, HM.out.2.1, HM.out.2.2, by rw [Hl.out]; exact h60, .inr H6.out, fun i s hi => HB.out.2.2 i s (by have h1 := (List.getElem?_eq_some_iff.1 hi).1; rw [Hl.out] at h1; omega) hi⟩, rfl⟩)
  clear hB
  go_wp2_with fail
  go_ret
  exact ⟨⟨_, Hy.out, rfl⟩, HB.out.1⟩
end Go.Proofs.YtafeadplmcoilaaDoor
