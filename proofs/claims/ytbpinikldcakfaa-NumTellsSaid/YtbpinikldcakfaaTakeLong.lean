/-
  num.TakeLong: its contract.
-/
import Derived.Test.YtbpinikldcakfaaTakeOut
namespace Go.Proofs.Ytbpinikldcakfaa
open Go.RowKit

/-- TakeLong's answer, as a whole. -/
def LongOut (l : List Int) (e : Ending) (w' : World) : Prop :=
  ∃ v, e = .returned (.tuple #[.int .i64 (longP l).1, v, .int .i64 (longP l).2.2]) ∧ Gives .u8 (longP l).2.1 v w'
theorem LongOut.mk {l : List Int} {x e : Int} {r : List Int} {v : Value} {w' : World} (h : longP l = (x, r, e)) (hg : Gives .u8 r v w') : LongOut l (.returned (.tuple #[.int .i64 x, v, .int .i64 e])) w' := by
  refine ⟨v, ?_, ?_⟩
  · rw [h]
  · rw [h]; exact hg
theorem Gives.nil (k : IntKind) (w : World) : Gives k [] (.slice none 0 0) w := ⟨none, 0, rfl, Nat.le_refl _, Rd.nil⟩

set_option maxRecDepth 100000 in
set_option maxHeartbeats 400000 in
theorem long_any (A : Option Addr) (n c : Nat) (l : List Int) (w : World) (hr : Rd w w.heap.size .u8 A n l) (hb : Byt l) (hnc : n ≤ c) (hn : n ≤ 140737488355328) :
    Calls Try.prog 18 #[.slice A n c] w fun e w' => LongOut l e w' ∧ Below w.heap.size w w' := by
  by_cases h5 : n < 5
  · have H := Lib.hid (longP_short (l := l) (by rw [hr.1]; exact h5))
    go_enter Try.func18, Try.ntmps18
    go_wp2
    go_ret3
    exact ⟨LongOut.mk H.out (Gives.nil _ _), Below.refl _ _⟩
  · have Hl := Lib.hid hr.1
    obtain ⟨b, off, rfl, hB, hcell⟩ := hr.at_ (by omega)
    go_enter Try.func18, Try.ntmps18
    go_wp2
    go_loop [14, 5] (fun i s => ∃ k : Nat, k ≤ 5 ∧ i = .int .i64 k ∧ s = .int .i64 (sumL (l.take k))) (fun i _ => 5 - (intOf i).toNat)
    case atStart => exact ⟨0, by omega, rfl, rfl⟩
    case round =>
      obtain ⟨k, hk, rfl, rfl⟩ := hrel
      by_cases hlt : k < 5
      · have hck := hcell k (by omega)
        have hx := hb.at_ k
        have hs := sumL_small hb hlt (by rw [Hl.out]; omega)
        have Hn := Lib.hid (sumL_next (l := l) (k := k) (by rw [Hl.out]; omega))
        clear hcell
        go_wp2
        go_round
        case rel => exact ⟨k + 1, by omega, by go_num, by rw [Hn.out]⟩
        case measure => simp [intOf]; omega
      · obtain rfl : k = 5 := by omega
        by_cases hbig : 1073741824 < sumL (l.take 5)
        · have H := Lib.hid (longP_big (l := l) (by rw [Hl.out]; omega) hbig)
          clear hcell
          go_wp2
          go_ret3
          exact ⟨LongOut.mk H.out (Gives.nil _ _), Below.refl _ _⟩
        · have H := Lib.hid (longP_ok (l := l) (by rw [Hl.out]; omega) (by omega))
          by_cases hcm : c = 5
          · have hd : l.drop 5 = [] := List.drop_of_length_le (by rw [Hl.out]; omega)
            have Hd := Lib.hid hd
            clear hd hcell
            subst hcm
            go_wp2_with fail
            refine (clone_any _ _ _ [] _ Rd.nil (by omega)).mono ?_
            rintro e w' ⟨v, rfl, hg, hbel⟩
            go_wp2
            go_ret3
            exact ⟨LongOut.mk H.out (by rw [Hd.out]; exact hg), hbel⟩
          · have hcut := hr.cut_off (m := 5) (by omega) hnc hcm
            clear hcell
            go_wp2_with fail
            refine (clone_any _ _ _ _ _ hcut (by omega)).mono ?_
            rintro e w' ⟨v, rfl, hg, hbel⟩
            go_wp2
            go_ret3
            exact ⟨LongOut.mk H.out hg, hbel⟩

end Go.Proofs.Ytbpinikldcakfaa
