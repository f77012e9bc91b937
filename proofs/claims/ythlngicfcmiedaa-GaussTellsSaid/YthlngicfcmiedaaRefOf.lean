/-
  moultref02.Of: its contract.
-/
import Derived.Test.YthlngicfcmiedaaRef
import Derived.Laws.BitsAllLaws
import Derived.Laws.BitsLemmas
namespace Go.Proofs.Ythlngicfcmiedaa
open Go.RowKit

theorem bits_nat (a : Nat) (ha : a < 9223372036854775808) : (BitVec.ofInt 64 (a : Int)).toNat = a := by
  rw [BitVec.ofInt_natCast, BitVec.toNat_ofNat]
  omega
theorem i64_or_nat (a b : Nat) (ha : a < 256) (hb : b < 256) : bits .or .i64 ((a * 256 : Nat) : Int) (b : Int) = ((a * 256 + b : Nat) : Int) := by
  show IntKind.i64.wrap ((BitVec.ofInt 64 ((a * 256 : Nat) : Int) ||| BitVec.ofInt 64 (b : Int)).toNat : Int) = _
  rw [BitVec.toNat_or, bits_nat (a * 256) (by omega), bits_nat b (by omega)]
  have h := Nat.shiftLeft_add_eq_or_of_lt (i := 8) (b := b) (by omega) a
  rw [Nat.shiftLeft_eq] at h
  rw [show a * 256 = a * 2 ^ 8 from rfl, ← h, IntKind.wrap_i64]
  omega
theorem i64_or_bytes {a b : Int} (ha : 0 ≤ a ∧ a ≤ 255) (hb : 0 ≤ b ∧ b ≤ 255) : bits .or .i64 (a * 256) b = a * 256 + b := by
  have h := i64_or_nat a.toNat b.toNat (by omega) (by omega)
  rw [show ((a.toNat * 256 : Nat) : Int) = a * 256 by omega, show ((b.toNat : Nat) : Int) = b by omega] at h
  rw [h]
  omega

set_option maxRecDepth 100000 in
set_option maxHeartbeats 400000 in
theorem rof_yes (a b c d : Int) (w : World) (ha : 0 ≤ a ∧ a ≤ 255) (hb : 0 ≤ b ∧ b ≤ 255) (hc : 0 ≤ c ∧ c ≤ 255) (hd : 0 ≤ d ∧ d ≤ 255) (h : a * 256 + b ≤ 10006 ∧ c * 256 + d ≤ 10006) :
    Calls Try.prog 10 #[agg4 [a, b, c, d]] w fun e w' => e = .returned (.tuple #[.complex .f64 (fl (a * 256 + b)) (fl (c * 256 + d)), .int .i64 0]) ∧ Below w.heap.size w w' := by
  have o1 := i64_or_bytes ha hb
  have o2 := i64_or_bytes hc hd
  show Calls Try.prog 10 #[.agg #[.int .u8 a, .int .u8 b, .int .u8 c, .int .u8 d]] _ _
  go_enter Try.func10, Try.ntmps10
  go_wp2_with fail
  obtain ⟨g, hg⟩ : ∃ g, g = w.heap.size := ⟨_, rfl⟩
  obtain ⟨w1, hw1⟩ : ∃ w1, w1 = w.alloc (.cells #[.int .u8 a, .int .u8 b, .int .u8 c, .int .u8 d] 23) := ⟨_, rfl⟩
  obtain ⟨k0, k1, k2, k3⟩ := boxed4 hg hw1
  have hB : Below w.heap.size w w1 := by rw [hw1]; exact (Below.refl _ _).alloc (Nat.le_refl _) _
  rw [← hw1, ← hg]
  clear hw1 hg
  go_quiet (fail)
  go_wp2_with fail
  go_ret2
  exact ⟨rfl, below_drewN hB _⟩

set_option maxRecDepth 100000 in
set_option maxHeartbeats 400000 in
theorem rof_no (a b c d : Int) (w : World) (ha : 0 ≤ a ∧ a ≤ 255) (hb : 0 ≤ b ∧ b ≤ 255) (hc : 0 ≤ c ∧ c ≤ 255) (hd : 0 ≤ d ∧ d ≤ 255) (h : 10006 < a * 256 + b ∨ 10006 < c * 256 + d) :
    Calls Try.prog 10 #[agg4 [a, b, c, d]] w fun e w' => e = .returned (.tuple #[.complex .f64 0 0, .int .i64 11]) ∧ Below w.heap.size w w' := by
  have o1 := i64_or_bytes ha hb
  have o2 := i64_or_bytes hc hd
  show Calls Try.prog 10 #[.agg #[.int .u8 a, .int .u8 b, .int .u8 c, .int .u8 d]] _ _
  go_enter Try.func10, Try.ntmps10
  go_wp2_with fail
  obtain ⟨g, hg⟩ : ∃ g, g = w.heap.size := ⟨_, rfl⟩
  obtain ⟨w1, hw1⟩ : ∃ w1, w1 = w.alloc (.cells #[.int .u8 a, .int .u8 b, .int .u8 c, .int .u8 d] 23) := ⟨_, rfl⟩
  obtain ⟨k0, k1, k2, k3⟩ := boxed4 hg hw1
  have hB : Below w.heap.size w w1 := by rw [hw1]; exact (Below.refl _ _).alloc (Nat.le_refl _) _
  rw [← hw1, ← hg]
  clear hw1 hg
  go_quiet (fail)
  by_cases h1 : 10006 < a * 256 + b
  · go_wp2_with fail
    go_ret2
    exact ⟨rfl, below_drewN hB _⟩
  · have h2 : 10006 < c * 256 + d := by omega
    go_wp2_with fail
    go_ret2
    exact ⟨rfl, below_drewN hB _⟩

end Go.Proofs.Ythlngicfcmiedaa
