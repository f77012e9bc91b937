/-
  manifest.inRow: its contract.
-/
import Derived.Test.YtafeadplmcoilaaDoorManC
namespace Go.Proofs.YtafeadplmcoilaaDoor
open Go.RowKit Go.Maps
set_option linter.unusedVariables false
set_option linter.unusedSimpArgs false

/-- What is asked of a segment beside its file. -/
def SegR (l : List SegP) (i : Nat) (s : SegP) : Prop := ((1 ≤ s.ct ∧ s.ct ≤ 4) ∨ (s.ct = -1 ∧ i + 1 = l.length)) ∧ (1 ≤ s.fi ∧ s.fi ≤ 1073741820) ∧ ∀ t, 0 < i → l[i - 1]? = some t → s.fi = t.fi + t.ct
def RowR (l : List SegP) : Prop := ∀ (i : Nat) (s : SegP), l[i]? = some s → SegR l i s
def RowIs (l : List SegP) (b : Bool) : Prop := b = true ↔ RowR l
theorem row_no {l : List SegP} {i : Nat} {s : SegP} (hs : l[i]? = some s) (h : ¬ SegR l i s) : RowIs l false := ⟨(fun h => by cases h), fun k => absurd (k i s hs) h⟩
theorem segR_prev {l : List SegP} {p : Nat} {t : SegP} (h : SegR l p t) : -1 ≤ t.fi + t.ct ∧ t.fi + t.ct ≤ 1073741824 := by
  have h1 := h.1
  have h2 := h.2.1
  omega

set_option maxRecDepth 100000 in
set_option maxHeartbeats 8000000 in
theorem inRow_any (l : List SegP) (A : Option Addr) (n c : Nat) (w : World) (hS : Sg w w.heap.size A n l) (h60 : n ≤ 60) :
    Calls Tryd.prog 40 #[.slice A n c] w fun e w' => (∃ b : Bool, RowIs l b ∧ e = .returned (.bool b)) ∧ Below w.heap.size w w' := by
  have HX := Lib.hid (⟨hS, hS.len⟩ : _ ∧ _)
  clear hS
  go_enter Tryd.func40, Tryd.ntmps40
  go_wp2_with fail
  go_loopw [8] (fun i wr => ∃ k : Nat, k ≤ n ∧ i = .int .i64 k ∧ (∀ (j : Nat) (s : SegP), j < k → l[j]? = some s → SegR l j s) ∧ Below w.heap.size w wr) (fun i _ => n - (intOf i).toNat)
  case atStart => exact ⟨0, Nat.zero_le _, rfl, fun j s h => absurd h (by omega), below_d0 w⟩
  obtain ⟨k, hk, rfl, hno, hB⟩ := hrel
  have HN := Lib.hid (⟨hno, hB⟩ : _ ∧ _)
  by_cases hlt : k < n
  case neg =>
    have Hy := Lib.hid (show RowIs l true from ⟨fun _ => fun i s hi => HN.out.1 i s (by have h1 := (List.getElem?_eq_some_iff.1 hi).1; have h2 := HX.out.2; omega) hi, fun _ => rfl⟩)
    clear hno hB
    go_wp2_with fail
    go_ret
    exact ⟨⟨_, Hy.out, rfl⟩, HN.out.2⟩
  obtain ⟨b, off, s, rfl, hb, hs, d0, d1, d2, d3⟩ := (HX.out.1.on hB hB.size).at_ hlt
  obtain ⟨w1, hw1⟩ : ∃ w1, w1 = wr.alloc (.cells #[.int .i64 s.sq, .int .i64 s.fm, .int .i64 s.fi, .int .i64 s.ct] 51) := ⟨_, rfl⟩
  obtain ⟨z, hz⟩ : ∃ z, z = wr.heap.size := ⟨_, rfl⟩
  have bs1 : BoxS w1 z s := by rw [hw1, hz]; exact BoxS.new wr s
  have b1 : Below wr.heap.size wr w1 := by rw [hw1]; exact below_al (below_d0 wr) _
  have B1 := hB.trans (b1.mono hB.size)
  have Hs := Lib.hid (⟨hs, bs1, B1, HX.out.1.on B1 B1.size, hw1, hz⟩ : _ ∧ _ ∧ _ ∧ _ ∧ _ ∧ _)
  have HB1 := Lib.hid (show Below w.heap.size w (wr.alloc (.cells #[.int .i64 s.sq, .int .i64 s.fm, .int .i64 s.fi, .int .i64 s.ct] 51)) from by rw [← hw1]; exact B1)
  have HQ := Lib.hid (last_sum (n := n) (by omega) h60)
  obtain ⟨hq1, hq2⟩ := HQ.out
  clear hno hB hs hb hw1 hz bs1 b1 B1
  by_cases c1 : 1 ≤ s.ct
  · have t1 : decide (1 ≤ s.ct) = true := decide_eq_true c1
    by_cases c2 : s.ct ≤ 4
    · have t2 : decide (s.ct ≤ 4) = true := decide_eq_true c2
      have Hc := Lib.hid (show (1 ≤ s.ct ∧ s.ct ≤ 4) ∨ (s.ct = -1 ∧ k + 1 = l.length) from .inl ⟨c1, c2⟩)
      clear c1 c2
      by_cases f1 : s.fi < 1
      · have g1 : decide (s.fi < 1) = true := decide_eq_true f1
        have Hn := Lib.hid (row_no Hs.out.1 fun h => by have := h.2.1; omega)
        go_wp2_with fail
        go_ret
        first | exact ⟨⟨_, Hn.out, rfl⟩, HB1.out⟩ | exact ⟨.inl ⟨Hn.out, rfl⟩, HB1.out⟩
      have g1 : decide (s.fi < 1) = false := decide_eq_false f1
      by_cases f2 : 1073741820 < s.fi
      · have g2 : decide (1073741820 < s.fi) = true := decide_eq_true f2
        have Hn := Lib.hid (row_no Hs.out.1 fun h => by have := h.2.1; omega)
        go_wp2_with fail
        go_ret
        first | exact ⟨⟨_, Hn.out, rfl⟩, HB1.out⟩ | exact ⟨.inl ⟨Hn.out, rfl⟩, HB1.out⟩
      have g2 : decide (1073741820 < s.fi) = false := decide_eq_false f2
      have Hf := Lib.hid (show 1 ≤ s.fi ∧ s.fi ≤ 1073741820 by omega)
      go_wp2_with fail
      rw [← Hs.out.2.2.2.2.1, ← Hs.out.2.2.2.2.2]
      have HBd := Lib.hid Hs.out.2.2.1.drew
      obtain ⟨y0, y1, y2, y3⟩ := Hs.out.2.1.cells
      clear f1 f2 g1 g2 d0 d1 d2 d3 y0 y1 y3 hq1 hq2
      by_cases h0 : k = 0
      · have q0 : decide ((0 : Int) < (k : Int)) = false := by simp; omega
        have q0' : ¬ ((0 : Int) < (k : Int)) := by omega
        have H0 := Lib.hid (show ∀ t, 0 < k → l[k - 1]? = some t → s.fi = t.fi + t.ct from fun t h => absurd h (by rw [h0]; exact Nat.lt_irrefl 0))
        go_region
        all_goals
          clear q0 q0' h0
          go_wp2_with fail
          go_roundw
          case rel =>
            refine ⟨k + 1, by omega, by go_num, fun j u hj hu => ?_, HBd.out⟩
            by_cases hjk : j = k
            · subst hjk
              rw [Hs.out.1] at hu
              rw [← Option.some.inj hu]
              exact ⟨Hc.out, Hf.out, H0.out⟩
            · exact HN.out.1 j u (by omega) hu
          case measure => simp [intOf]; omega
      · obtain ⟨p, hpi⟩ : ∃ p, k = p + 1 := ⟨k - 1, by omega⟩
        have hpn : p < n := by omega
        obtain ⟨b', off', t, hA, hb', ht, e0, e1, e2, e3⟩ := Hs.out.2.2.2.1.at_ hpn
        cases hA
        have hpv := segR_prev (HN.out.1 p t (by omega) ht)
        obtain ⟨q0, q0', a1, a2, G, hG, a3, a4⟩ := seg_sums hpi (by omega) hpv
        have q5 : decide (0 < k) = true := by simp; omega
        have q6 : 0 < k := by omega
        have HG := Lib.hid (⟨hG, ht, hpi⟩ : _ ∧ _ ∧ _)
        clear hG ht hpi hpv h0 e0 e1
        by_cases h9 : s.fi = G
        · have q9 : (s.fi != G) = false := by simpa using h9
          have H9 := Lib.hid (show ∀ u, 0 < k → l[k - 1]? = some u → s.fi = u.fi + u.ct from fun u _ hu => by rw [HG.out.2.2, Nat.add_sub_cancel, HG.out.2.1] at hu; rw [← Option.some.inj hu, h9, HG.out.1])
          clear h9
          go_region
          all_goals
            clear a1 a2 a3 a4 e2 e3 q0 q0' q5 q6
            go_wp2_with fail
            go_roundw
            case rel =>
              refine ⟨k + 1, by omega, by go_num, fun j u hj hu => ?_, HBd.out⟩
              by_cases hjk : j = k
              · subst hjk
                rw [Hs.out.1] at hu
                rw [← Option.some.inj hu]
                exact ⟨Hc.out, Hf.out, H9.out⟩
              · exact HN.out.1 j u (by omega) hu
            case measure => simp [intOf]; omega
        · have q9 : (s.fi != G) = true := by simpa using h9
          have Hn := Lib.hid (row_no Hs.out.1 fun h => h9 (by rw [HG.out.1]; exact h.2.2 t (by omega) (by rw [HG.out.2.2, Nat.add_sub_cancel]; exact HG.out.2.1)))
          clear h9
          go_region
          all_goals
            clear a1 a2 a3 a4 e2 e3 q0 q0' q5 q6
            go_wp2_with fail
            go_ret
            exact ⟨⟨_, Hn.out, rfl⟩, HBd.out⟩
    · have t2 : decide (s.ct ≤ 4) = false := decide_eq_false c2
      have t3 : (s.ct != -1) = true := by simp; omega
      have Hn := Lib.hid (row_no Hs.out.1 fun h => by have := h.1; omega)
      clear c1 c2
      go_wp2_with fail
      go_ret
      first | exact ⟨⟨_, Hn.out, rfl⟩, HB1.out⟩ | exact ⟨.inl ⟨Hn.out, rfl⟩, HB1.out⟩
  have t1 : decide (1 ≤ s.ct) = false := decide_eq_false c1
  by_cases c3 : s.ct = -1
  case neg =>
    have t3 : (s.ct != -1) = true := by simpa using c3
    have Hn := Lib.hid (row_no Hs.out.1 fun h => by have := h.1; omega)
    clear c1 c3
    go_wp2_with fail
    go_ret
    first | exact ⟨⟨_, Hn.out, rfl⟩, HB1.out⟩ | exact ⟨.inl ⟨Hn.out, rfl⟩, HB1.out⟩
  have t3 : (s.ct != -1) = false := by simp [c3]
  by_cases c4 : k + 1 = n
  case neg =>
    have t4 : decide ((k : Int) < (n : Int) - 1) = true := by simp; omega
    have t5 : (k : Int) < (n : Int) - 1 := by omega
    have Hn := Lib.hid (row_no Hs.out.1 fun h => by have h1 := h.1; have h2 := HX.out.2; omega)
    clear c1 c3 c4
    go_wp2_with fail
    go_ret
    first | exact ⟨⟨_, Hn.out, rfl⟩, HB1.out⟩ | exact ⟨.inl ⟨Hn.out, rfl⟩, HB1.out⟩
  have t4 : decide ((k : Int) < (n : Int) - 1) = false := by simp; omega
  have t5 : ¬ ((k : Int) < (n : Int) - 1) := by omega
  have Hc := Lib.hid (show (1 ≤ s.ct ∧ s.ct ≤ 4) ∨ (s.ct = -1 ∧ k + 1 = l.length) from .inr ⟨c3, by rw [HX.out.2]; exact c4⟩)
  clear c1 c3 c4
  by_cases f1 : s.fi < 1
  · have g1 : decide (s.fi < 1) = true := decide_eq_true f1
    have Hn := Lib.hid (row_no Hs.out.1 fun h => by have := h.2.1; omega)
    go_wp2_with fail
    go_ret
    first | exact ⟨⟨_, Hn.out, rfl⟩, HB1.out⟩ | exact ⟨.inl ⟨Hn.out, rfl⟩, HB1.out⟩
  have g1 : decide (s.fi < 1) = false := decide_eq_false f1
  by_cases f2 : 1073741820 < s.fi
  · have g2 : decide (1073741820 < s.fi) = true := decide_eq_true f2
    have Hn := Lib.hid (row_no Hs.out.1 fun h => by have := h.2.1; omega)
    go_wp2_with fail
    go_ret
    first | exact ⟨⟨_, Hn.out, rfl⟩, HB1.out⟩ | exact ⟨.inl ⟨Hn.out, rfl⟩, HB1.out⟩
  have g2 : decide (1073741820 < s.fi) = false := decide_eq_false f2
  have Hf := Lib.hid (show 1 ≤ s.fi ∧ s.fi ≤ 1073741820 by omega)
  go_wp2_with fail
  rw [← Hs.out.2.2.2.2.1, ← Hs.out.2.2.2.2.2]
  have HBd := Lib.hid Hs.out.2.2.1.drew
  obtain ⟨y0, y1, y2, y3⟩ := Hs.out.2.1.cells
  clear f1 f2 g1 g2 d0 d1 d2 d3 y0 y1 y3 hq1 hq2
  by_cases h0 : k = 0
  · have q0 : decide ((0 : Int) < (k : Int)) = false := by simp; omega
    have q0' : ¬ ((0 : Int) < (k : Int)) := by omega
    have H0 := Lib.hid (show ∀ t, 0 < k → l[k - 1]? = some t → s.fi = t.fi + t.ct from fun t h => absurd h (by rw [h0]; exact Nat.lt_irrefl 0))
    go_region
    all_goals
      clear q0 q0' h0
      go_wp2_with fail
      go_roundw
      case rel =>
        refine ⟨k + 1, by omega, by go_num, fun j u hj hu => ?_, HBd.out⟩
        by_cases hjk : j = k
        · subst hjk
          rw [Hs.out.1] at hu
          rw [← Option.some.inj hu]
          exact ⟨Hc.out, Hf.out, H0.out⟩
        · exact HN.out.1 j u (by omega) hu
      case measure => simp [intOf]; omega
  · obtain ⟨p, hpi⟩ : ∃ p, k = p + 1 := ⟨k - 1, by omega⟩
    have hpn : p < n := by omega
    obtain ⟨b', off', t, hA, hb', ht, e0, e1, e2, e3⟩ := Hs.out.2.2.2.1.at_ hpn
    cases hA
    have hpv := segR_prev (HN.out.1 p t (by omega) ht)
    obtain ⟨q0, q0', a1, a2, G, hG, a3, a4⟩ := seg_sums hpi (by omega) hpv
    have q5 : decide (0 < k) = true := by simp; omega
    have q6 : 0 < k := by omega
    have HG := Lib.hid (⟨hG, ht, hpi⟩ : _ ∧ _ ∧ _)
    clear hG ht hpi hpv h0 e0 e1
    by_cases h9 : s.fi = G
    · have q9 : (s.fi != G) = false := by simpa using h9
      have H9 := Lib.hid (show ∀ u, 0 < k → l[k - 1]? = some u → s.fi = u.fi + u.ct from fun u _ hu => by rw [HG.out.2.2, Nat.add_sub_cancel, HG.out.2.1] at hu; rw [← Option.some.inj hu, h9, HG.out.1])
      clear h9
      go_region
      all_goals
        clear a1 a2 a3 a4 e2 e3 q0 q0' q5 q6
        go_wp2_with fail
        go_roundw
        case rel =>
          refine ⟨k + 1, by omega, by go_num, fun j u hj hu => ?_, HBd.out⟩
          by_cases hjk : j = k
          · subst hjk
            rw [Hs.out.1] at hu
            rw [← Option.some.inj hu]
            exact ⟨Hc.out, Hf.out, H9.out⟩
          · exact HN.out.1 j u (by omega) hu
        case measure => simp [intOf]; omega
    · have q9 : (s.fi != G) = true := by simpa using h9
      have Hn := Lib.hid (row_no Hs.out.1 fun h => h9 (by rw [HG.out.1]; exact h.2.2 t (by omega) (by rw [HG.out.2.2, Nat.add_sub_cancel]; exact HG.out.2.1)))
      clear h9
      go_region
      all_goals
        clear a1 a2 a3 a4 e2 e3 q0 q0' q5 q6
        go_wp2_with fail
        go_ret
        exact ⟨⟨_, Hn.out, rfl⟩, HBd.out⟩
end Go.Proofs.YtafeadplmcoilaaDoor
