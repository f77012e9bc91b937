/-
  The document's seg (may the segment at a place be?): its contract.
-/
import Derived.Test.YtafeadplmcoilaaDoorManQ
namespace Go.Proofs.YtafeadplmcoilaaDoor
open Go.RowKit Go.Maps
set_option linter.unusedVariables false
set_option linter.unusedSimpArgs false

def SegIs' (m : ManP) (i : Nat) (s : SegP) (b : Bool) : Prop := b = true ↔ SegM m i s
theorem segNo {m : ManP} {i : Nat} {s : SegP} (h : ¬ SegM m i s) : SegIs' m i s false := ⟨(fun h => by cases h), fun k => absurd k h⟩
theorem segYes {m : ManP} {i : Nat} {s : SegP} (h : SegM m i s) : SegIs' m i s true := ⟨(fun _ => h), fun _ => rfl⟩
theorem box_newS {w : World} (m : ManP) (v : Value) (s : SegP) : ∃ w1 w2 z z', w1 = w.alloc (.cells #[.int .i64 m.nx, .int .i64 m.tm, .int .i64 m.vt, .int .i64 m.ss, .int .i64 m.sf, v] 26) ∧ w2 = w1.alloc (.cells #[.int .i64 s.sq, .int .i64 s.fm, .int .i64 s.fi, .int .i64 s.ct] 51) ∧ z = w.heap.size ∧ z + 1 = z' ∧ Below w.heap.size w w2 ∧ BoxM w2 z m v ∧ BoxS w2 z' s := by
  obtain ⟨w1, z, hw1, hz, b1, x1⟩ := box_new (w := w) m v
  have b2 : Below w1.heap.size w1 (w1.alloc (.cells #[.int .i64 s.sq, .int .i64 s.fm, .int .i64 s.fi, .int .i64 s.ct] 51)) := (Below.refl _ _).alloc (Nat.le_refl _) _
  refine ⟨w1, _, z, w1.heap.size, hw1, rfl, hz, ?_, b1.trans (b2.mono b1.size), x1.below b2, BoxS.new _ _⟩
  rw [hw1, hz]
  simp
theorem seg_prev {m : ManP} {p : Nat} {t : SegP} (h : SegM m p t) : -1 ≤ t.fi + t.ct ∧ t.fi + t.ct ≤ 1073741824 := by
  have h1 := h.first
  have h2 := h.count
  omega
theorem last_sum {n : Nat} (h : 0 < n) (h60 : n ≤ 60) : IntKind.i64.wrap ((n : Int) - 1) = (n : Int) - 1 ∧ wrap64 ((n : Int) - 1) = (n : Int) - 1 := ⟨by rw [IntKind.wrap_i64]; omega, by unfold wrap64; omega⟩
theorem seg_sums {i p : Nat} {x y : Int} (hi : i = p + 1) (h60 : i < 61) (h : -1 ≤ x + y ∧ x + y ≤ 1073741824) : decide ((0 : Int) < (i : Int)) = true ∧ (0 : Int) < (i : Int) ∧ IntKind.i64.wrap ((i : Int) - 1) = (p : Int) ∧ wrap64 ((i : Int) - 1) = (p : Int) ∧ ∃ G, G = x + y ∧ IntKind.i64.wrap (x + y) = G ∧ wrap64 (x + y) = G := by
  refine ⟨by simp; omega, by omega, by rw [IntKind.wrap_i64]; omega, by unfold wrap64; omega, _, rfl, by rw [IntKind.wrap_i64]; omega, by unfold wrap64; omega⟩

set_option maxRecDepth 100000 in
set_option maxHeartbeats 8000000 in
theorem rseg_any (m : ManP) (A : Option Addr) (n c i : Nat) (s : SegP) (w : World) (hn : 1 ≤ m.nx ∧ m.nx ≤ 1073741824) (hS : Sg w w.heap.size A n m.sg) (hi : i < n) (h60 : n ≤ 60) (hs : m.sg[i]? = some s) (hp : ∀ k t, k < i → m.sg[k]? = some t → SegM m k t) :
    Calls Tryd.prog 43 #[manV m (.slice A n c), .int .i64 (i : Int)] w fun e w' => (∃ b, SegIs' m i s b ∧ e = .returned (.bool b)) ∧ Below w.heap.size w w' := by
  have Hp := Lib.hid (⟨hp, hS.len, hs, hn⟩ : _ ∧ _ ∧ _ ∧ _)
  obtain ⟨b, off, s0, rfl, hb, hs0, d0, d1, d2, d3⟩ := hS.at_ hi
  obtain rfl : s0 = s := Option.some.inj (hs0.symm.trans hs)
  obtain ⟨w1, w2, z, z', hw1, hw2, hz, hz', b2, x1, x2⟩ := box_newS (w := w) m (.slice (some ⟨b, off, none⟩) n c) s0
  have HX := Lib.hid (⟨x1, x2, b2, hS.on b2 b2.size⟩ : _ ∧ _ ∧ _ ∧ _)
  have HW := Lib.hid (⟨hw1, hw2, hz, hz'⟩ : _ ∧ _ ∧ _ ∧ _)
  clear x1 x2 b2 hS hw1 hw2 hz hz' hs0 hs hp hn
  unfold manV
  cases hf : fileB m s0.sq s0.fm
  case false =>
    have Hn := Lib.hid (segNo (m := m) (i := i) (s := s0) fun h => by have h1 := fileB_iff.2 h.file; rw [hf] at h1; cases h1)
    go_enter Tryd.func43, Tryd.ntmps43
    go_wp2_with fail
    rw [← HW.out.1, ← HW.out.2.1, ← HW.out.2.2.1]
    rw [HW.out.2.2.2]
    refine Calls.mono (rfile_any m (.slice (some ⟨b, off, none⟩) n c) s0.sq s0.fm w2 Hp.out.2.2.2) ?_
    rintro e w3 ⟨rfl, b3⟩
    rw [hf]
    have H3 := Lib.hid (⟨HX.out.2.2.1.trans (b3.mono HX.out.2.2.1.size), HX.out.1.below b3, HX.out.2.1.below b3, HX.out.2.2.2.on b3 b3.size⟩ : _ ∧ _ ∧ _ ∧ _)
    clear b3 hf
    go_wp2_with fail
    go_ret
    exact ⟨⟨_, Hn.out, rfl⟩, H3.out.1⟩
  have hfile := Lib.hid (fileB_iff.1 hf)
  by_cases h2 : s0.sq = m.ss
  case pos =>
    have q2 : (s0.sq == m.ss) = true := by simpa using h2
    have Hn := Lib.hid (segNo (m := m) (i := i) (s := s0) fun h => h.snap h2)
    clear h2
    go_enter Tryd.func43, Tryd.ntmps43
    go_wp2_with fail
    rw [← HW.out.1, ← HW.out.2.1, ← HW.out.2.2.1]
    rw [HW.out.2.2.2]
    refine Calls.mono (rfile_any m (.slice (some ⟨b, off, none⟩) n c) s0.sq s0.fm w2 Hp.out.2.2.2) ?_
    rintro e w3 ⟨rfl, b3⟩
    rw [hf]
    have H3 := Lib.hid (⟨HX.out.2.2.1.trans (b3.mono HX.out.2.2.1.size), HX.out.1.below b3, HX.out.2.1.below b3, HX.out.2.2.2.on b3 b3.size⟩ : _ ∧ _ ∧ _ ∧ _)
    clear b3 hf
    obtain ⟨-, -, -, x3, -, x5⟩ := H3.out.2.1.cells
    obtain ⟨y0, y1, y2, y3⟩ := H3.out.2.2.1.cells
    go_wp2_with fail
    go_ret
    exact ⟨⟨_, Hn.out, rfl⟩, H3.out.1⟩
  have q2 : (s0.sq == m.ss) = false := by simpa using h2
  have hsnap := Lib.hid h2
  clear h2
  cases h3 : inM s0.fi 1 1073741820
  case false =>
    have Hn := Lib.hid (segNo (m := m) (i := i) (s := s0) fun h => by have h1 := inM_yes h.first; rw [h3] at h1; cases h1)
    go_enter Tryd.func43, Tryd.ntmps43
    go_wp2_with fail
    rw [← HW.out.1, ← HW.out.2.1, ← HW.out.2.2.1]
    rw [HW.out.2.2.2]
    refine Calls.mono (rfile_any m (.slice (some ⟨b, off, none⟩) n c) s0.sq s0.fm w2 Hp.out.2.2.2) ?_
    rintro e w3 ⟨rfl, b3⟩
    rw [hf]
    have H3 := Lib.hid (⟨HX.out.2.2.1.trans (b3.mono HX.out.2.2.1.size), HX.out.1.below b3, HX.out.2.1.below b3, HX.out.2.2.2.on b3 b3.size⟩ : _ ∧ _ ∧ _ ∧ _)
    clear b3 hf
    obtain ⟨-, -, -, x3, -, x5⟩ := H3.out.2.1.cells
    obtain ⟨y0, y1, y2, y3⟩ := H3.out.2.2.1.cells
    go_wp2_with fail
    refine Calls.mono (rwithin_any _ _ _ _) ?_
    rintro e wv ⟨rfl, hwv⟩
    obtain rfl := hwv.symm
    rw [h3]
    go_wp2_with fail
    go_ret
    exact ⟨⟨_, Hn.out, rfl⟩, H3.out.1⟩
  have hfirst := Lib.hid (inM_iff.1 h3)
  go_enter Tryd.func43, Tryd.ntmps43
  go_wp2_with fail
  rw [← HW.out.1, ← HW.out.2.1, ← HW.out.2.2.1]
  rw [HW.out.2.2.2]
  refine Calls.mono (rfile_any m (.slice (some ⟨b, off, none⟩) n c) s0.sq s0.fm w2 Hp.out.2.2.2) ?_
  rintro e w3 ⟨rfl, b3⟩
  rw [hf]
  have H3 := Lib.hid (⟨HX.out.2.2.1.trans (b3.mono HX.out.2.2.1.size), HX.out.1.below b3, HX.out.2.1.below b3, HX.out.2.2.2.on b3 b3.size⟩ : _ ∧ _ ∧ _ ∧ _)
  clear b3 hf
  obtain ⟨-, -, -, x3, -, x5⟩ := H3.out.2.1.cells
  obtain ⟨y0, y1, y2, y3⟩ := H3.out.2.2.1.cells
  go_wp2_with fail
  refine Calls.mono (rwithin_any _ _ _ _) ?_
  rintro e wv ⟨rfl, hwv⟩
  obtain rfl := hwv.symm
  rw [h3]
  clear h3
  go_wp2_with fail
  clear q2 x3 x5 y0 y1 y2 y3
  go_loopw [6] (fun v wr => ∃ k : Nat, k ≤ i ∧ v = .int .i64 k ∧ (∀ (j : Nat) (t : SegP), j < k → m.sg[j]? = some t → t.sq ≠ s0.sq) ∧ Below w3.heap.size w3 wr) (fun v _ => i - (intOf v).toNat)
  case atStart => exact ⟨0, Nat.zero_le _, rfl, fun j t h => absurd h (by omega), Below.refl _ _⟩
  obtain ⟨k, hk, rfl, hno, hB⟩ := hrel
  have HB := Lib.hid (⟨H3.out.1.trans (hB.mono H3.out.1.size), hB, hno⟩ : _ ∧ _ ∧ _)
  obtain ⟨-, -, -, -, -, x5⟩ := (H3.out.2.1.below hB).cells
  obtain ⟨y0, y1, y2, y3⟩ := (H3.out.2.2.1.below hB).cells
  clear hno
  by_cases hlt : k < i
  · have hkn : k < n := by omega
    obtain ⟨b', off', t, hA, hb', ht, e0, e1, e2, e3⟩ := (H3.out.2.2.2.on hB hB.size).at_ hkn
    cases hA
    by_cases h1 : t.sq = s0.sq
    · have q1 : (t.sq == s0.sq) = true := by simpa using h1
      have Hn := Lib.hid (segNo (m := m) (i := i) (s := s0) fun h => h.new k t hlt ht h1)
      clear h1 ht hB y1 y2 y3 e1 e2 e3 d0 d1 d2 d3
      go_wp2
      go_region
      all_goals
        go_wp2
        go_ret
        exact ⟨⟨_, Hn.out, rfl⟩, HB.out.1.drew⟩
    · have q1 : (t.sq == s0.sq) = false := by simpa using h1
      have Hn := Lib.hid (⟨h1, ht⟩ : _ ∧ _)
      clear h1 ht hB y1 y2 y3 e1 e2 e3 d0 d1 d2 d3
      go_wp2
      go_region
      all_goals
        go_wp2
        go_roundw
        case rel =>
          refine ⟨k + 1, by omega, by go_num, fun j u hj hu => ?_, HB.out.2.1.drew⟩
          by_cases hjk : j = k
          · subst hjk
            rw [Hn.out.2] at hu
            rw [← Option.some.inj hu]
            exact Hn.out.1
          · exact HB.out.2.2 j u (by omega) hu
        case measure => simp [intOf]; omega
  have Hnew := Lib.hid (fun (j : Nat) (t : SegP) (hj : j < i) => HB.out.2.2 j t (by omega))
  have HQ := Lib.hid (last_sum (n := n) (by omega) h60)
  by_cases h0 : i = 0
  · have q0 : decide ((0 : Int) < (i : Int)) = false := by simp; omega
    have q0' : ¬ ((0 : Int) < (i : Int)) := by omega
    have H00 := Lib.hid h0
    have H0 := Lib.hid (show ∀ t, 0 < i → m.sg[i - 1]? = some t → s0.fi = t.fi + t.ct from fun t h => absurd h (by rw [h0]; exact Nat.lt_irrefl 0))
    clear hB y0 y1 d0 d1 d2 d3
    go_wp2
    go_region
    all_goals
      have HD := Lib.hid (⟨HB.out.1.drew, HB.out.2.1.drew⟩ : _ ∧ _)
      clear x5 y2 y3 h0 q0 q0'
      obtain ⟨-, -, -, -, -, x5⟩ := (H3.out.2.1.below HD.out.2).cells
      obtain ⟨-, -, -, y3⟩ := (H3.out.2.2.1.below HD.out.2).cells
      by_cases hc : 1 ≤ s0.ct ∧ s0.ct ≤ 4
      · have h11 := inM_yes hc
        have Hz := Lib.hid (segYes ⟨hfile.out, hsnap.out, hfirst.out, Hnew.out, H0.out, .inl hc⟩)
        clear hc
        go_wp2_with fail
        refine Calls.mono (rwithin_any _ _ _ _) ?_
        rintro e wv ⟨rfl, rfl⟩
        rw [h11]
        go_wp2_with fail
        go_ret
        exact ⟨⟨_, Hz.out, rfl⟩, HD.out.1⟩
      have h11 := inM_no hc
      by_cases h12 : s0.ct = -1
      · have q12 : (s0.ct == -1) = true := by simpa using h12
        by_cases h13 : i + 1 = n
        · have q13 : ((i : Int) == (n : Int) - 1) = true := by simp; omega
          have q14 : ((0 : Int) == (n : Int) - 1) = true := by have := H00.out; simp; omega
          have Hz := Lib.hid (segYes ⟨hfile.out, hsnap.out, hfirst.out, Hnew.out, H0.out, .inr ⟨h12, h13.trans Hp.out.2.1.symm⟩⟩)
          clear hc h12 h13
          obtain ⟨hq1, hq2⟩ := HQ.out
          go_wp2_with fail
          refine Calls.mono (rwithin_any _ _ _ _) ?_
          rintro e wv ⟨rfl, rfl⟩
          rw [h11]
          go_wp2_with fail
          go_ret
          exact ⟨⟨_, Hz.out, rfl⟩, HD.out.1⟩
        · have q13 : ((i : Int) == (n : Int) - 1) = false := by simp; omega
          have q14 : ((0 : Int) == (n : Int) - 1) = false := by have := H00.out; simp; omega
          have Hz := Lib.hid (segNo (m := m) (i := i) (s := s0) fun h => by rcases h.count with h | ⟨_, h⟩; exact hc h; exact h13 (h.trans Hp.out.2.1))
          clear hc h12 h13
          obtain ⟨hq1, hq2⟩ := HQ.out
          go_wp2_with fail
          refine Calls.mono (rwithin_any _ _ _ _) ?_
          rintro e wv ⟨rfl, rfl⟩
          rw [h11]
          go_wp2_with fail
          go_ret
          exact ⟨⟨_, Hz.out, rfl⟩, HD.out.1⟩
      · have q12 : (s0.ct == -1) = false := by simpa using h12
        have Hz := Lib.hid (segNo (m := m) (i := i) (s := s0) fun h => by rcases h.count with h | ⟨h, _⟩; exact hc h; exact h12 h)
        clear hc h12
        go_wp2_with fail
        refine Calls.mono (rwithin_any _ _ _ _) ?_
        rintro e wv ⟨rfl, rfl⟩
        rw [h11]
        go_wp2_with fail
        go_ret
        exact ⟨⟨_, Hz.out, rfl⟩, HD.out.1⟩
  · obtain ⟨p, hpi⟩ : ∃ p, i = p + 1 := ⟨i - 1, by omega⟩
    have hpn : p < n := by omega
    obtain ⟨b', off', t, hA, hb', ht, e0, e1, e2, e3⟩ := (H3.out.2.2.2.on hB hB.size).at_ hpn
    cases hA
    have hpv := seg_prev (Hp.out.1 p t (by omega) ht)
    obtain ⟨q0, q0', a1, a2, G, hG, a3, a4⟩ := seg_sums hpi (by omega) hpv
    have q5 : decide (0 < i) = true := by simp; omega
    have q6 : 0 < i := by omega
    have HG := Lib.hid (⟨hG, ht, hpi⟩ : _ ∧ _ ∧ _)
    clear hG ht hpi hpv h0 y0 y1 d0 d1 d2 d3 e0 e1 hB
    by_cases h9 : s0.fi = G
    · have q9 : (s0.fi != G) = false := by simpa using h9
      have H9 := Lib.hid (show ∀ u, 0 < i → m.sg[i - 1]? = some u → s0.fi = u.fi + u.ct from fun u _ hu => by rw [HG.out.2.2, Nat.add_sub_cancel, HG.out.2.1] at hu; rw [← Option.some.inj hu, h9, HG.out.1])
      clear h9
      go_wp2
      go_region
      all_goals
        have HD := Lib.hid (⟨HB.out.1.drew, HB.out.2.1.drew⟩ : _ ∧ _)
        clear x5 y2 y3 a1 a2 a3 a4 e2 e3
        obtain ⟨-, -, -, -, -, x5⟩ := (H3.out.2.1.below HD.out.2).cells
        obtain ⟨-, -, -, y3⟩ := (H3.out.2.2.1.below HD.out.2).cells
        by_cases hc : 1 ≤ s0.ct ∧ s0.ct ≤ 4
        · have h11 := inM_yes hc
          have Hz := Lib.hid (segYes ⟨hfile.out, hsnap.out, hfirst.out, Hnew.out, H9.out, .inl hc⟩)
          clear hc
          go_wp2_with fail
          refine Calls.mono (rwithin_any _ _ _ _) ?_
          rintro e wv ⟨rfl, rfl⟩
          rw [h11]
          go_wp2_with fail
          go_ret
          exact ⟨⟨_, Hz.out, rfl⟩, HD.out.1⟩
        have h11 := inM_no hc
        by_cases h12 : s0.ct = -1
        · have q12 : (s0.ct == -1) = true := by simpa using h12
          by_cases h13 : i + 1 = n
          · have q13 : ((i : Int) == (n : Int) - 1) = true := by simp; omega
            have Hz := Lib.hid (segYes ⟨hfile.out, hsnap.out, hfirst.out, Hnew.out, H9.out, .inr ⟨h12, h13.trans Hp.out.2.1.symm⟩⟩)
            clear hc h12 h13
            obtain ⟨hq1, hq2⟩ := HQ.out
            go_wp2_with fail
            refine Calls.mono (rwithin_any _ _ _ _) ?_
            rintro e wv ⟨rfl, rfl⟩
            rw [h11]
            go_wp2_with fail
            go_ret
            exact ⟨⟨_, Hz.out, rfl⟩, HD.out.1⟩
          · have q13 : ((i : Int) == (n : Int) - 1) = false := by simp; omega
            have Hz := Lib.hid (segNo (m := m) (i := i) (s := s0) fun h => by rcases h.count with h | ⟨_, h⟩; exact hc h; exact h13 (h.trans Hp.out.2.1))
            clear hc h12 h13
            obtain ⟨hq1, hq2⟩ := HQ.out
            go_wp2_with fail
            refine Calls.mono (rwithin_any _ _ _ _) ?_
            rintro e wv ⟨rfl, rfl⟩
            rw [h11]
            go_wp2_with fail
            go_ret
            exact ⟨⟨_, Hz.out, rfl⟩, HD.out.1⟩
        · have q12 : (s0.ct == -1) = false := by simpa using h12
          have Hz := Lib.hid (segNo (m := m) (i := i) (s := s0) fun h => by rcases h.count with h | ⟨h, _⟩; exact hc h; exact h12 h)
          clear hc h12
          go_wp2_with fail
          refine Calls.mono (rwithin_any _ _ _ _) ?_
          rintro e wv ⟨rfl, rfl⟩
          rw [h11]
          go_wp2_with fail
          go_ret
          exact ⟨⟨_, Hz.out, rfl⟩, HD.out.1⟩
    · have q9 : (s0.fi != G) = true := by simpa using h9
      have Hz := Lib.hid (segNo (m := m) (i := i) (s := s0) fun h => h9 (by rw [HG.out.1]; exact h.next t (by omega) (by rw [HG.out.2.2, Nat.add_sub_cancel]; exact HG.out.2.1)))
      clear h9
      go_wp2
      go_region
      all_goals
        go_wp2
        go_ret
        exact ⟨⟨_, Hz.out, rfl⟩, HB.out.1.drew⟩
end Go.Proofs.YtafeadplmcoilaaDoor
