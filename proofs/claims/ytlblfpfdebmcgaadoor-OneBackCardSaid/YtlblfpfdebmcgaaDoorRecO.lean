/-
  one.headOf, one.recordOf: their contracts.
-/
import Derived.Test.YtlblfpfdebmcgaaDoorOneV
import Derived.Test.YtlblfpfdebmcgaaDoorScope
namespace Go.Proofs.YtlblfpfdebmcgaaDoor
open Go.RowKit
set_option linter.unusedVariables false

theorem nu_byt {l : List Int} (h : Byt l) : Nu.Byt l := h
theorem longP_err {l : List Int} (h : (Nu.longP l).2.2 ≠ 0) : (Nu.longP l).1 = 0 := by
  unfold Nu.longP at h ⊢
  split
  · rfl
  · split
    · rfl
    · rename_i h1 h2; rw [if_neg h1, if_neg h2] at h; exact absurd rfl h
theorem longP_pos {l : List Int} (hb : Byt l) : 0 ≤ (Nu.longP l).1 := by
  unfold Nu.longP
  split
  · exact Int.le_refl 0
  · split
    · exact Int.le_refl 0
    · exact (Nu.sumL_bound (nu_byt hb) 5 (by omega)).1
/-- num.TakeLong of at least five bytes, its number and its error alone. -/
theorem tlong_any (A : Option Addr) (n c : Nat) (l : List Int) (w : World) {x e : Int} (hr : Rd w w.heap.size .u8 A n l) (hb : Byt l) (hnc : n ≤ c) (hn : n ≤ 1048576) (hx : (Nu.longP l).1 = x) (he : (Nu.longP l).2.2 = e) :
    Calls Tryd.prog 38 #[.slice A n c] w fun r w' => (∃ A' n' c', r = .returned (.tuple #[.int .i64 x, .slice A' n' c', .int .i64 e])) ∧ Below w.heap.size w w' := by
  subst hx he
  refine (Nu.long_any A n c l w hr (nu_byt hb) hnc (by omega)).mono ?_
  rintro r w' ⟨⟨v, rfl, A', c', rfl, _⟩, hb⟩
  exact ⟨⟨A', _, c', rfl⟩, hb⟩

/-- What headOf answers. -/
def headV (l : List Int) : Value := .tuple #[.int .i64 ((headO l).getD 0), .bool (headO l).isSome]
set_option maxRecDepth 100000 in
set_option maxHeartbeats 1000000 in
theorem headOf_any (A : Option Addr) (n c : Nat) (l : List Int) (w : World) (hr : Rd w w.heap.size .u8 A n l) (hb : Byt l) (hnc : n ≤ c) :
    Calls Tryd.prog 27 #[.slice A n c] w fun e w' => e = .returned (headV l) ∧ Below w.heap.size w w' := by
  have Hl := Lib.hid hr.1
  unfold headV
  by_cases h6 : n < 6
  · have H := Lib.hid (headO_short (b := l) (by rw [Hl.out]; exact h6))
    go_enter Tryd.func27, Tryd.ntmps27
    go_wp2_with fail
    go_ret2
    exact ⟨by rw [H.out]; rfl, Below.refl _ _⟩
  · obtain ⟨b, off, rfl, hbl, hcell⟩ := hr.at_ (by omega)
    have hc0 := hcell 0 (by omega)
    rw [Nat.add_zero] at hc0
    by_cases h1 : l[0]?.getD 0 = 1
    · have hr1 : Rd w w.heap.size .u8 (some ⟨b, off + 1, none⟩) 5 ((l.take 6).drop 1) := by
        have h := Nu.Rd.cut_at (m := 1) (hr.first (m := 6) (by omega)) (by omega)
        exact h
      obtain ⟨x, hx⟩ : ∃ x, (Nu.longP ((l.take 6).drop 1)).1 = x := ⟨_, rfl⟩
      obtain ⟨e, he⟩ : ∃ e, (Nu.longP ((l.take 6).drop 1)).2.2 = e := ⟨_, rfl⟩
      have hbt : Byt ((l.take 6).drop 1) := (hb.take 6).drop 1
      have hx0 := longP_pos hbt
      rw [hx] at hx0
      by_cases he0 : e = 0
      · subst he0
        by_cases hp : 0 < x
        · have H : Hid (headO l = some x) := by
            unfold headO
            rw [if_pos ⟨by rw [Hl.out]; omega, h1, he, by rw [hx]; exact hp⟩, hx]
            exact Lib.hid rfl
          have Hx := Lib.hid (⟨hr1, hbt, hx, he⟩ : _ ∧ _ ∧ _ ∧ _)
          clear hr1 hbt hx he hcell hr
          go_enter Tryd.func27, Tryd.ntmps27
          go_wp2_with fail
          refine (tlong_any _ 5 _ _ w Hx.out.1 Hx.out.2.1 (by omega) (by omega) Hx.out.2.2.1 Hx.out.2.2.2).mono ?_
          rintro r w1 ⟨⟨A', n', c', rfl⟩, hb1⟩
          go_wp2_with fail
          go_ret2
          exact ⟨by rw [H.out]; rfl, hb1⟩
        · have H : Hid (headO l = none) := by
            unfold headO
            rw [if_neg (fun h => by rw [hx] at h; exact hp h.2.2.2)]
            exact Lib.hid rfl
          have h00 : x = 0 := by omega
          subst h00
          have Hx := Lib.hid (⟨hr1, hbt, hx, he⟩ : _ ∧ _ ∧ _ ∧ _)
          clear hr1 hbt hx he hcell hr
          go_enter Tryd.func27, Tryd.ntmps27
          go_wp2_with fail
          refine (tlong_any _ 5 _ _ w Hx.out.1 Hx.out.2.1 (by omega) (by omega) Hx.out.2.2.1 Hx.out.2.2.2).mono ?_
          rintro r w1 ⟨⟨A', n', c', rfl⟩, hb1⟩
          go_wp2_with fail
          go_ret2
          exact ⟨by rw [H.out]; rfl, hb1⟩
      · have H : Hid (headO l = none) := by
          unfold headO
          rw [if_neg (fun h => by rw [he] at h; exact he0 h.2.2.1)]
          exact Lib.hid rfl
        have h00 : x = 0 := by rw [← hx]; exact longP_err (by rw [he]; exact he0)
        subst h00
        have Hx := Lib.hid (⟨hr1, hbt, hx, he⟩ : _ ∧ _ ∧ _ ∧ _)
        have hq : (e == 0) = false := by simpa using he0
        clear hr1 hbt hx he hcell hr
        go_enter Tryd.func27, Tryd.ntmps27
        go_wp2_with fail
        refine (tlong_any _ 5 _ _ w Hx.out.1 Hx.out.2.1 (by omega) (by omega) Hx.out.2.2.1 Hx.out.2.2.2).mono ?_
        rintro r w1 ⟨⟨A', n', c', rfl⟩, hb1⟩
        go_wp2_with fail
        go_ret2
        exact ⟨by rw [H.out]; rfl, hb1⟩
    · have H : Hid (headO l = none) := by
        unfold headO
        rw [if_neg (fun h => h1 h.2.1)]
        exact Lib.hid rfl
      have hq : (l[0]?.getD 0 != 1) = true := by simpa using h1
      clear hcell hr
      go_enter Tryd.func27, Tryd.ntmps27
      go_wp2_with fail
      go_ret2
      exact ⟨by rw [H.out]; rfl, Below.refl _ _⟩

end Go.Proofs.YtlblfpfdebmcgaaDoor
