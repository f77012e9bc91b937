/-
  names.kindOf: its contract.
-/
import Derived.Test.YtbfdjjkphmchgaaDoorNameA
import Derived.Maps.RangeWalk
namespace Go.Proofs.YtbfdjjkphmchgaaDoor
open Go.RowKit Go.Maps

/-- The kind that has that letter. -/
def kindP (b : Int) : Int := if b = 115 then 3 else if b = 112 then 4 else 0
theorem let_has {kl : Lit} {x : Int} (h : keyOf Tryd.prog 5 (.int .u8 x) = some kl) (hh : Maps.has letD kl = true) : kl = .int .u8 x ∧ (x = 3 ∨ x = 4) := by
  obtain ⟨x', e, rfl, hw⟩ := Maps.keyOf_int_inv Tryd.underlying5 h
  cases e
  refine ⟨rfl, ?_⟩
  by_cases h3 : x = 3
  · exact .inl h3
  by_cases h4 : x = 4
  · exact .inr h4
  have n1 : (Lit.int .u8 x) ≠ .int .u8 3 := fun e => by cases e; exact h3 rfl
  have n2 : (Lit.int .u8 x) ≠ .int .u8 4 := fun e => by cases e; exact h4 rfl
  unfold letD at hh
  rw [has_put_other n2, has_put_other n1] at hh
  cases hh

set_option maxRecDepth 100000 in
set_option maxHeartbeats 2000000 in
theorem kind_any (b : Int) (hb : 0 ≤ b ∧ b ≤ 255) (w : World) : Calls Tryd.prog 33 #[.int .u8 b] w fun e w' => e = .returned (.int .u8 (kindP b)) ∧ Below w.heap.size w w' := by
  go_enter Tryd.func33, Tryd.ntmps33
  go_wp2_with fail
  refine (letters_any w).mono ?_
  rintro e w1 ⟨⟨g, rfl, hl, hg⟩, hb1⟩
  have hl' : w1.ownsMap Tryd.prog 5 itself g 2 letD := hl
  clear hl
  go_wp2_with (first
    | (at_range; refine wpList_range_own _ rfl _ 50 rfl 5 5 kind_keyed Tryd.underlying50 itself g 2 letD rfl hl' ?_; intro w0 hrg0 hg0 hs0)
    | fail)
  go_frame
  obtain ⟨r, hr⟩ : ∃ r, r = w1.heap.size := ⟨_, rfl⟩
  rw [← hr] at hrg0 hs0 ⊢
  have hB0 : Below w.heap.size w w0 := hb1.trans (⟨hg0.os, hg0.tape, hg0.output, hg0.size, fun k hk => hg0.block k (Nat.lt_of_lt_of_le hk hb1.size) (by simp)⟩ : Below w.heap.size w1 w0)
  have hrw : w.heap.size ≤ r := by rw [hr]; exact hb1.size
  have Hrw := Lib.hid hrw
  have Hhb := Lib.hid hb
  clear hl' hg0 hr hb1 hg hrw hb
  go_loopw [] (fun wr => ∃ (left : Lit → Bool) (cnt : Nat), wr.ranges Tryd.prog 5 itself g r 2 letD left cnt ∧ Below w.heap.size w wr ∧ (∀ kl, left kl = true → Maps.has letD kl = true) ∧ (left (.int .u8 3) = false → b ≠ 115) ∧ (left (.int .u8 4) = false → b ≠ 112))
    (fun wr => wr.rangeLeft g r)
  case atStart => exact ⟨_, _, hrg0, hB0, fun _ h => h, fun h => absurd h (by decide), fun h => absurd h (by decide)⟩
  case round =>
    obtain ⟨left, cnt, hrg, hB, hleft, h3, h4⟩ := hrel
    clear hrg0 hB0
    have HI := Lib.hid (⟨hleft, h3, h4⟩ : _ ∧ _ ∧ _)
    clear hleft h3 h4
    go_wp2_with (first
      | (at_next; refine wpList_next_ranges (α := Int) (β := Value) _ rfl _ rfl 5 kind_keyed itself (Value.int .u8) (fun v => v) (fun key kl hkey => by obtain ⟨x, rfl, _⟩ := Maps.keyOf_int_inv Tryd.underlying5 hkey; exact ⟨x, rfl⟩) (fun v y _ => ⟨v, rfl⟩) g r 2 letD left cnt rfl hrg ?_ ?_)
      | fail)
    · intro _ hl0
      have hk : kindP b = 0 := by
        unfold kindP
        rw [if_neg (HI.out.2.1 (hl0 _)), if_neg (HI.out.2.2 (hl0 _))]
      have Hk := Lib.hid hk
      clear hk
      go_wp2_with fail
      go_ret
      exact ⟨by rw [Hk.out]; rfl, hB⟩
    · intro x c kl y ys w2 cnt2 hkey hlk hv hat hrg2 hlt hg2 hs2 hen
      obtain ⟨rfl, hx⟩ := let_has hkey (HI.out.1 _ hlk)
      have hB2 : Below w.heap.size w w2 := hB.grown hg2 hB.size (fun k e => by cases e; exact Hrw.out)
      have hc : c = .int .u8 (if x = 3 then 115 else 112) := by
        have h1 := hat (.held .nilFunc)
        unfold itself at hv
        cases hv
        rcases hx with rfl | rfl
        · have h2 : letD.atKey (.int .u8 3) (.held .nilFunc) = .held (.int .u8 115) := rfl
          rw [h2] at h1
          cases h1
          rfl
        · have h2 : letD.atKey (.int .u8 4) (.held .nilFunc) = .held (.int .u8 112) := rfl
          rw [h2] at h1
          cases h1
          rfl
      subst hc
      have hkeep : w2.ranges Tryd.prog 5 itself g r 2 letD (fun z => left z && !z.sameKey (.int .u8 x)) cnt2 := hrg2
      rcases hx with rfl | rfl
      · rw [if_pos rfl] at *
        by_cases hb : b = 115
        · have hk : kindP b = 3 := by unfold kindP; rw [if_pos hb]
          have Hk := Lib.hid hk
          have tb : ((115 : Int) == b) = true := by simp [hb]
          clear hk hb
          go_wp2_with fail
          go_ret
          exact ⟨by rw [Hk.out]; rfl, hB2⟩
        · have tb : ((115 : Int) == b) = false := by simp; omega
          have Hb := Lib.hid hb
          clear hb
          go_wp2_with fail
          go_roundw
          case rel => exact ⟨_, cnt2, hkeep, hB2, fun kl h => HI.out.1 kl (by simp at h; exact h.1), fun _ => Hb.out, fun h => HI.out.2.2 (by simpa [show (Lit.int .u8 4).sameKey (Lit.int .u8 3) = false from rfl] using h)⟩
          case measure => rw [hrg2.left_eq, hrg.left_eq]; exact hlt
      · rw [if_neg (by omega)] at *
        by_cases hb : b = 112
        · have hk : kindP b = 4 := by unfold kindP; rw [if_neg (by omega), if_pos hb]
          have Hk := Lib.hid hk
          have tb : ((112 : Int) == b) = true := by simp [hb]
          clear hk hb
          go_wp2_with fail
          go_ret
          exact ⟨by rw [Hk.out]; rfl, hB2⟩
        · have tb : ((112 : Int) == b) = false := by simp; omega
          have Hb := Lib.hid hb
          clear hb
          go_wp2_with fail
          go_roundw
          case rel => exact ⟨_, cnt2, hkeep, hB2, fun kl h => HI.out.1 kl (by simp at h; exact h.1), fun h => HI.out.2.1 (by simpa [show (Lit.int .u8 3).sameKey (Lit.int .u8 4) = false from rfl] using h), fun _ => Hb.out⟩
          case measure => rw [hrg2.left_eq, hrg.left_eq]; exact hlt

end Go.Proofs.YtbfdjjkphmchgaaDoor
