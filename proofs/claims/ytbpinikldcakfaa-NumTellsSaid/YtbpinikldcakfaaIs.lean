/-
  num.Is: its contract.
-/
import Derived.Test.YtbpinikldcakfaaBase
import Derived.Test.YtbpinikldcakfaaPure
namespace Go.Proofs.Ytbpinikldcakfaa
open Go.RowKit

set_option maxRecDepth 100000 in
set_option maxHeartbeats 400000 in
/-- num.Is: it tells whether all are numbers; nothing turns. -/
theorem is_any (A : Option Addr) (n c : Nat) (l : List Int) (w : World) (hr : Rd w w.heap.size .i64 A n l) (hn : n ≤ 140737488355328) :
    Calls Try.prog 14 #[.slice A n c] w fun e w' => e = .returned (.bool (allNum l)) ∧ w = w' := by
  have hl : l.length = n := hr.1
  go_enter Try.func14, Try.ntmps14
  go_wp2
  go_loop [7] (fun i => ∃ k : Nat, k ≤ n ∧ i = .int .i64 k ∧ allNum (l.take k) = true) (fun i => n - (intOf i).toNat)
  case atStart => exact ⟨0, Nat.zero_le _, rfl, rfl⟩
  case round =>
    obtain ⟨k, hk, rfl, hall⟩ := hrel
    have Hall := Lib.hid hall
    clear hall
    have Hl := Lib.hid hl
    clear hl
    by_cases hlt : k < n
    · obtain ⟨b, off, rfl, hB, hc⟩ := hr.at_ (by omega)
      have hck := hc k hlt
      clear hc
      by_cases h0 : l[k]?.getD 0 < 0
      · have hd : decide (l[k]?.getD 0 < 0) = true := by simpa using h0
        go_wp2
        go_ret
        exact ⟨ret_bool (by rw [allNum_no (k := k) (by rw [Hl.out]; exact hlt) (by simp [isNum]; omega)]), rfl⟩
      · have hd : decide (l[k]?.getD 0 < 0) = false := by simpa using h0
        by_cases h1 : 1073741824 < l[k]?.getD 0
        · go_wp2
          go_ret
          exact ⟨ret_bool (by rw [allNum_no (k := k) (by rw [Hl.out]; exact hlt) (by simp [isNum]; omega)]), rfl⟩
        · go_wp2
          go_round
          case rel => exact ⟨k + 1, by omega, by go_num, by rw [take_snoc (by rw [Hl.out]; exact hlt), allNum_snoc, Hall.out]; simp [isNum]; omega⟩
          case measure => simp [intOf]; omega
    · have : k = n := by omega
      have hf : allNum l = true := by rw [← Hall.out, List.take_of_length_le (by rw [Hl.out]; omega)]
      have Hf := Lib.hid hf
      clear hf this
      go_wp2
      go_ret
      exact ⟨ret_bool (by rw [Hf.out]), rfl⟩

end Go.Proofs.Ytbpinikldcakfaa
