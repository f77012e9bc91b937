/-
  moultlaw11.same, great: their contracts.
-/
import Derived.Test.YtafeadplmcoilaaDoorCrcM
import Derived.Test.YtafeadplmcoilaaDoorTakeM
import Derived.Test.YtafeadplmcoilaaDoorPutM
import Derived.Test.YtafeadplmcoilaaDoorKeepM
namespace Go.Proofs.YtafeadplmcoilaaDoor
open Go.RowKit
set_option linter.unusedVariables false

theorem same_any (A A' : Option Addr) (n n' c c' : Nat) (l m : List Int) (w : World) (hr : Rd w w.heap.size .u8 A n l) (hr' : Rd w w.heap.size .u8 A' n' m) (hl : Byt l) (hm : Byt m) :
    Calls Tryd.prog 16 #[.slice A n c, .slice A' n' c'] w fun e w' => e = .returned (.bool (Cr.eqB l m)) ∧ w = w' := by
  have q1 := Cr.run_txt (P := Tryd.prog) (c := c) 27 9 5 Tryd.underlying27 Tryd.underlying5 Tryd.underlying9 hr
  have q2 := Cr.run_txt (P := Tryd.prog) (c := c') 27 9 5 Tryd.underlying27 Tryd.underlying5 Tryd.underlying9 hr'
  have H := Lib.hid (Cr.txt_beq hl hm)
  obtain ⟨s, hs⟩ : ∃ s, s = Cr.txt l := ⟨_, rfl⟩
  obtain ⟨t, ht⟩ : ∃ s, s = Cr.txt m := ⟨_, rfl⟩
  have H2 := Lib.hid (show (s.toList == t.toList) = Cr.eqB l m by rw [hs, ht]; exact H.out)
  rw [← hs] at q1
  rw [← ht] at q2
  clear hs ht hr hr' hl hm H
  obtain ⟨bv, hbv⟩ : ∃ bv, (s.toList == t.toList) = bv := ⟨_, rfl⟩
  rw [hbv] at H2
  cases bv <;>
  · go_enter Tryd.func16, Tryd.ntmps16
    go_wp2_with fail
    go_ret
    exact ⟨by rw [← H2.out]; first | rfl | simp_all, rfl⟩
theorem great_any (m : ManP) (A : Option Addr) (n c : Nat) (w : World) :
    Calls Tryd.prog 8 #[manV m (.slice A n c)] w fun e w' => e = .returned (.bool (decide (70 < n))) ∧ Below w.heap.size w w' := by
  unfold manV
  by_cases h : 70 < n
  · have e1 : decide ((70 : Int) < (n : Int)) = true := by simp; omega
    have H := Lib.hid (decide_eq_true h)
    rw [H.out]
    clear h
    go_enter Tryd.func8, Tryd.ntmps8
    go_wp2_with fail
    go_ret
    exact ⟨rfl, below_al (below_d0 w) _⟩
  · have e1 : decide ((70 : Int) < (n : Int)) = false := by simp; omega
    have H := Lib.hid (decide_eq_false h)
    rw [H.out]
    clear h
    go_enter Tryd.func8, Tryd.ntmps8
    go_wp2_with fail
    go_ret
    exact ⟨rfl, below_al (below_d0 w) _⟩
theorem PutT.yes {m : ManP} {w w' : World} {e : Ending} (h : PutT m w e w') (hm : May m) {n : Nat} (hn : (manL m).length = n) : ∃ A c, e = .returned (.tuple #[.slice A n c, .int .i64 0]) ∧ n ≤ c ∧ Rd w' w'.heap.size .u8 A n (manL m) ∧ Below w.heap.size w w' := by
  obtain ⟨⟨A, q, c, L, er, he, hp, hq, hc, hr⟩, hb⟩ := h
  obtain ⟨rfl, rfl⟩ := hp.same (.inl ⟨hm, rfl, rfl⟩)
  obtain rfl : q = n := hq.symm.trans hn
  exact ⟨A, c, he, hc, hr, hb⟩
theorem PutT.no {m : ManP} {w w' : World} {e : Ending} (h : PutT m w e w') (hm : ¬ May m) : ∃ A c, e = .returned (.tuple #[.slice A 0 c, .int .i64 2]) ∧ Below w.heap.size w w' := by
  obtain ⟨⟨A, q, c, L, er, he, hp, hq, hc, hr⟩, hb⟩ := h
  obtain ⟨rfl, rfl⟩ := hp.same (.inr ⟨hm, rfl, rfl⟩)
  obtain rfl : q = 0 := hq.symm
  exact ⟨A, c, he, hb⟩
theorem TakeT.yes {b : List Int} {m : ManP} {w w' : World} {e : Ending} (h : TakeT b w e w') (hm : IsMan m b) {n : Nat} (hn : m.sg.length = n) : ∃ A c, e = .returned (.tuple #[manV m (.slice A n c), .int .i64 0]) ∧ n ≤ c ∧ OwnS w' w.heap.size (.slice A n c) n m.sg ∧ Below w.heap.size w w' := by
  obtain ⟨⟨t, A, q, c, er, he, ht, hq, hS⟩, hb⟩ := h
  obtain ⟨rfl, rfl⟩ := ht.yes hm
  obtain rfl : q = n := hS.sg.len.symm.trans hn
  obtain ⟨A2, c2, e2, hc2⟩ := own_slice hS
  cases e2
  exact ⟨A, c, he, hc2, hS, hb⟩
theorem TakeT.no {b : List Int} {w w' : World} {e : Ending} (h : TakeT b w e w') (hm : ∀ t, ¬ IsMan t b) : ∃ A c, e = .returned (.tuple #[manV noneM (.slice A 0 c), .int .i64 11]) ∧ Below w.heap.size w w' := by
  obtain ⟨⟨t, A, q, c, er, he, ht, hq, hS⟩, hb⟩ := h
  obtain ⟨rfl, rfl⟩ := ht.no hm
  obtain rfl : q = 0 := hS.sg.len.symm
  exact ⟨A, c, he, hb⟩

/-! ### What wakes asks -/
def wM1 : ManP := ⟨1, 0, 0, 0, 0, []⟩
def wM2 : ManP := ⟨9, 3, 1, 2, 1, [⟨4, 2, 5, 4⟩, ⟨8, 1, 9, -1⟩]⟩
theorem may_w1 : May wM1 := ⟨by decide, by decide, by decide, by decide, .inl ⟨rfl, rfl⟩, fun i s h => by simp [wM1] at h⟩
theorem may_w2 : May wM2 := by
  refine ⟨by decide, by decide, by decide, by decide, .inr ⟨by decide, by decide, .inl rfl⟩, fun i s h => ?_⟩
  match i, h with
  | 0, h =>
    simp [wM2] at h
    subst h
    refine ⟨⟨by decide, by decide, .inr rfl⟩, by decide, by decide, fun k t hk => absurd hk (by omega), fun t hk => absurd hk (by omega), .inl (by decide)⟩
  | 1, h =>
    simp [wM2] at h
    subst h
    refine ⟨⟨by decide, by decide, .inl rfl⟩, by decide, by decide, fun k t hk ht => ?_, fun t _ ht => ?_, .inr ⟨rfl, rfl⟩⟩
    · obtain rfl : k = 0 := by omega
      simp [wM2] at ht
      subst ht
      decide
    · simp [wM2] at ht
      subst ht
      decide
  | i + 2, h => simp [wM2] at h
theorem may_none : ¬ May noneM := fun h => by have := h.nx.1; revert this; decide
theorem text_w1 : manT wM1 = [77, 1, 0, 0, 0, 0, 0] := by
  have h0 := Nu.short_1 (n := 0) (by omega) (by omega)
  have h1 := Nu.short_1 (n := 1) (by omega) (by omega)
  simp [manT, numsM, headN, wM1, Nu.shortsOf, h0, h1]
theorem len_w1 : (manL wM1).length = 11 := by rw [manL_len, text_w1]; rfl
theorem cut_w1 : (manL wM1).take 7 = [77, 1, 0, 0, 0, 0, 0] := by
  rw [manL, sealL, text_w1]
  rfl
theorem mok_may {m : ManP} (h : May m) : MOk m := mok_nums (nums_all h)
theorem mok_none : MOk noneM := fun x hx => by simp [filesP, snapF, noneM] at hx
theorem open_w2 : OpenIs wM2 1 true := ⟨2, rfl, .inl ⟨⟨⟨8, 1, 9, -1⟩, rfl, by omega, rfl⟩, rfl, rfl⟩⟩
theorem keep_w2 : keepP wM2 = [⟨1, 0, 0⟩, ⟨4, 2, 1⟩, ⟨3, 4, 2⟩, ⟨3, 8, 1⟩] := by
  simp [keepP, ownF, filesP, snapF, wM2, segF]
theorem two_w2 : TwoIs wM2 true := ⟨fun _ => .inr ⟨0, ⟨4, 2, 5, 4⟩, rfl, rfl⟩, fun _ => rfl⟩
theorem two_none : TwoIs noneM false := two_no (by decide) fun i s h => by simp [noneM] at h
theorem same_w2 : SameM wM2 wM2 true := SameM.yes rfl
end Go.Proofs.YtafeadplmcoilaaDoor
