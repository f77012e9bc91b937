/-
  moultlaw06.ints: its contract: the same numbers?
-/
import Derived.Test.YtbaaghggilfpjaaBase
import Derived.RegionTactic
import Derived.BigRegion
import Derived.ChangeAlike
namespace Go.Proofs.Ytbaaghggilfpjaa
open Go.RowKit

/-- Whether two rows are the same. -/
def eqB (l m : List Int) : Bool := decide (l = m)
theorem eqB_true {l m : List Int} (h : l = m) : eqB l m = true := decide_eq_true h
theorem eqB_iff {l m : List Int} : eqB l m = true ↔ l = m := by simp [eqB]
theorem take_snoc {l : List Int} {k : Nat} (h : k < l.length) : l.take (k + 1) = l.take k ++ [l[k]?.getD 0] := by
  rw [List.take_add_one, List.getElem?_eq_getElem h]; rfl
theorem eqB_len {l m : List Int} (h : l.length ≠ m.length) : eqB l m = false := by
  simp only [eqB, decide_eq_false_iff_not]
  rintro rfl
  exact h rfl
theorem eqB_at {l m : List Int} {k : Nat} (h : l[k]?.getD 0 ≠ m[k]?.getD 0) : eqB l m = false := by
  simp only [eqB, decide_eq_false_iff_not]
  rintro rfl
  exact h rfl
theorem take_next {l m : List Int} {k : Nat} (hl : k < l.length) (hm : k < m.length) (h : l.take k = m.take k) (he : l[k]?.getD 0 = m[k]?.getD 0) : l.take (k + 1) = m.take (k + 1) := by
  rw [take_snoc hl, take_snoc hm, h, he]

set_option maxRecDepth 100000 in
set_option maxHeartbeats 400000 in
theorem ints_any (A A' : Option Addr) (n n' c c' : Nat) (l m : List Int) (w : World) (hr : Rd w w.heap.size .i64 A n l) (hr' : Rd w w.heap.size .i64 A' n' m) (hn : n ≤ 140737488355328) (hn' : n' ≤ 140737488355328) :
    Calls Try.prog 21 #[.slice A n c, .slice A' n' c'] w fun e w' => e = .returned (.bool (eqB l m)) ∧ Below w.heap.size w w' := by
  have Hl := Lib.hid hr.1
  have Hm := Lib.hid hr'.1
  by_cases hnn : n = n'
  · subst hnn
    go_enter Try.func21, Try.ntmps21
    go_wp2
    go_loopw [5] (fun i wr => ∃ k : Nat, k ≤ n ∧ i = .int .i64 k ∧ l.take k = m.take k ∧ Below w.heap.size w wr) (fun i _ => n - (intOf i).toNat)
    case atStart => exact ⟨0, Nat.zero_le _, rfl, rfl, Below.refl _ _⟩
    case round =>
      obtain ⟨k, hk, rfl, heq, hB⟩ := hrel
      have Heq := Lib.hid heq
      clear heq
      by_cases hlt : k < n
      · obtain ⟨b, off, rfl, hb, hc⟩ := (hr.on hB hB.size).at_ (by omega)
        obtain ⟨b', off', rfl, hb', hc'⟩ := (hr'.on hB hB.size).at_ (by omega)
        have hck := hc k hlt
        have hck' := hc' k hlt
        clear hc hc'
        by_cases he : l[k]?.getD 0 = m[k]?.getD 0
        · have Hn := Lib.hid (take_next (by rw [Hl.out]; exact hlt) (by rw [Hm.out]; exact hlt) Heq.out he)
          have hd : (l[k]?.getD 0 != m[k]?.getD 0) = false := by simp [he]
          have He := Lib.hid he
          clear he
          go_wp2
          go_region
          all_goals
            go_wp2
            go_roundw
            case rel => exact ⟨k + 1, by omega, by go_num, Hn.out, hB.drew⟩
            case measure => simp [intOf]; omega
        · have Hf := Lib.hid (eqB_at he)
          have hd : (l[k]?.getD 0 != m[k]?.getD 0) = true := by simpa using he
          clear he
          go_wp2
          go_region
          all_goals
            go_wp2
            go_ret
            exact ⟨ret_bool (by rw [Hf.out]), hB.drew⟩
      · have hkn : k = n := by omega
        have hf : eqB l m = true := eqB_true (by
          have h1 := Heq.out
          rwa [List.take_of_length_le (by rw [Hl.out]; omega), List.take_of_length_le (by rw [Hm.out]; omega)] at h1)
        have Hf := Lib.hid hf
        clear hf hkn
        go_wp2
        go_ret
        exact ⟨ret_bool (by rw [Hf.out]), hB⟩
  · have Hf := Lib.hid (eqB_len (l := l) (m := m) (by rw [Hl.out, Hm.out]; exact hnn))
    go_enter Try.func21, Try.ntmps21
    go_wp2
    go_ret
    exact ⟨ret_bool (by rw [Hf.out]), Below.refl _ _⟩

end Go.Proofs.Ytbaaghggilfpjaa
