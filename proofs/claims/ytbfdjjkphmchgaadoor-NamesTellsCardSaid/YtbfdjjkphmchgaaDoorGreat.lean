/-
  moultlaw05.great: what its no gives.
-/
import Derived.Test.YtbfdjjkphmchgaaDoorFileN
import Derived.Test.YtbfdjjkphmchgaaDoorBel
import Derived.StillTailTactics
namespace Go.Proofs.YtbfdjjkphmchgaaDoor
open Go.RowKit Go.Maps

/-- At most forty files, names of at most sixty bytes. -/
def SmallF (n : Nat) (l : List FlP) : Prop := n ≤ 40 ∧ ∀ f ∈ l, f.name.size ≤ 60

set_option maxRecDepth 100000 in
set_option maxHeartbeats 2000000 in
theorem great_any (A : Option Addr) (n c : Nat) (l : List FlP) (w : World) (hl : Fl w w.heap.size A n l) :
    Calls Tryd.prog 8 #[.slice A n c] w fun e w' => (∃ y, e = .returned (.bool y) ∧ (y = false → SmallF n l)) ∧ Below w.heap.size w w' := by
  have Hl := Lib.hid hl
  clear hl
  go_enter Tryd.func8, Tryd.ntmps8
  go_wp2_with fail
  go_loopw [3] (fun i wr => ∃ (k : Nat), k ≤ n ∧ k ≤ 41 ∧ i = .int .i64 k ∧ (∀ f ∈ l.take k, f.name.size ≤ 60) ∧ Below w.heap.size w wr) (fun i _ => n - (intOf i).toNat)
  case atStart => exact ⟨0, Nat.zero_le _, by omega, rfl, fun f hf => by simp at hf, below_d0 w⟩
  case round =>
    obtain ⟨k, hk, hk1, rfl, hall, hB⟩ := hrel
    by_cases hlt : k < n
    · by_cases h40 : k ≤ 40
      · obtain ⟨b, off, f, rfl, hb, hf, c0, c1⟩ := Fl.get (Hl.out.on hB (Nat.le_refl _)) hlt
        by_cases h60 : 60 < f.name.size
        · clear hall hf
          go_wp2_with fail
          go_ret
          exact ⟨⟨true, rfl, fun h => by cases h⟩, hB⟩
        · have Hk := Lib.hid (show ∀ x ∈ l.take (k + 1), x.name.size ≤ 60 by
            intro x hx
            rw [List.take_add_one, hf] at hx
            rcases List.mem_append.1 hx with h | h
            · exact hall x h
            · simp at h
              subst h
              omega)
          clear hall hf
          go_wp2_with fail
          go_roundw
          case rel => exact ⟨k + 1, by omega, by omega, by go_num, Hk.out, hB⟩
          case measure => simp [intOf]; omega
      · have hn40 : 40 < n := by omega
        clear hall
        go_wp2_with fail
        go_ret
        exact ⟨⟨_, rfl, fun h => absurd (of_decide_eq_false h) (by omega)⟩, hB⟩
    · obtain rfl : k = n := by omega
      have Hk := Lib.hid (show ∀ x ∈ l, x.name.size ≤ 60 by
        rw [List.take_of_length_le (by rw [Hl.out.1]; exact Nat.le_refl _)] at hall
        exact hall)
      clear hall
      go_wp2_with fail
      go_ret
      exact ⟨⟨_, rfl, fun h => ⟨by have := of_decide_eq_false h; omega, Hk.out⟩⟩, hB⟩

end Go.Proofs.YtbfdjjkphmchgaaDoor
