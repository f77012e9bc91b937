/-
  gauss.Bytes, gauss.Of: their contracts.
-/
import Derived.Test.YthlngicfcmiedaaStep
import Derived.Deep.QuietTactic
import Derived.BigQuiet
import Derived.Outline
namespace Go.Proofs.Ythlngicfcmiedaa
open Go.RowKit

def agg4 (l : List Int) : Value := .agg (l.map (Value.int .u8)).toArray

set_option maxRecDepth 100000 in
set_option maxHeartbeats 400000 in
theorem bytes_no {x y : Nat} (w : World) (hp : ptB x y = false) :
    Calls Try.prog 17 #[.complex .f64 x y] w fun e w' => e = .returned (agg4 [0, 0, 0, 0]) ∧ Below w.heap.size w w' := by
  have Hp := Lib.hid hp
  clear hp
  go_enter Try.func17, Try.ntmps17
  go_wp2_with fail
  refine (right_no Hp.out _).mono ?_
  rintro e w' ⟨rfl, rfl⟩
  go_wp2_with fail
  exact bodyPost_ret (v := .agg #[.int .u8 0, .int .u8 0, .int .u8 0, .int .u8 0]) (by simp [results, Try.results17, go_sem]) rfl ⟨rfl, (Below.refl _ _).alloc (Nat.le_refl _) _⟩

set_option maxRecDepth 100000 in
set_option maxHeartbeats 400000 in
theorem bytes_yes {x y : Nat} {p : Int × Int} (w : World) (hp : Pt x y p) :
    Calls Try.prog 17 #[.complex .f64 x y] w fun e w' => e = .returned (agg4 (bytesP p)) ∧ Below w.heap.size w w' := by
  obtain ⟨hx, hy, ⟨a0, a1⟩, b0, b1⟩ := id hp
  have c1 : ∀ w, (convert 22 3 (.float .f64 x)).run Try.prog w = .ok (.int .i64 p.1) w := fun w => run_convert_float_int w 22 3 .f64 .i64 x _ (by rw [Try.underlying22]; rfl) Try.underlying3 (hx.toInt (by omega))
  have c2 : ∀ w, (convert 22 3 (.float .f64 y)).run Try.prog w = .ok (.int .i64 p.2) w := fun w => run_convert_float_int w 22 3 .f64 .i64 y _ (by rw [Try.underlying22]; rfl) Try.underlying3 (hy.toInt (by omega))
  go_enter Try.func17, Try.ntmps17
  go_wp2_with fail
  refine (right_yes hp _).mono ?_
  rintro e w' ⟨rfl, rfl⟩
  go_wp2_with fail
  exact bodyPost_ret (v := agg4 (bytesP p)) (by simp [results, Try.results17, go_sem]; rfl) rfl ⟨rfl, (Below.refl _ _).alloc (Nat.le_refl _) _⟩

theorem part_q (h l : Int) (w : World) (hh : 0 ≤ h ∧ h ≤ 255) (hl : 0 ≤ l ∧ l ≤ 255) :
    Calls Try.prog 20 #[.int .u8 h, .int .u8 l] w fun e w' => e = .returned (.float .f64 (fl (h * 256 + l))) ∧ w' = w :=
  (part_any h l w hh hl).mono fun _ _ ⟨a, b⟩ => ⟨a, b.symm⟩

theorem inP_mk {a b : Int} (h1 : 0 ≤ a) (h2 : a ≤ 10006) (h3 : 0 ≤ b) (h4 : b ≤ 10006) : InP (a, b) := ⟨⟨h1, h2⟩, h3, h4⟩
theorem ofP_no {a b c d : Int} (h : 10006 < a * 256 + b ∨ 10006 < c * 256 + d) (ha : 0 ≤ a ∧ a ≤ 255) (hb : 0 ≤ b ∧ b ≤ 255) (hc : 0 ≤ c ∧ c ≤ 255) (hd : 0 ≤ d ∧ d ≤ 255) : ptB (fl (a * 256 + b)) (fl (c * 256 + d)) = false := by
  cases hp : ptB (fl (a * 256 + b)) (fl (c * 256 + d))
  · rfl
  · obtain ⟨p, h1, h2, ⟨_, h3⟩, _, h4⟩ := Pt.of hp
    have e1 := (W.fl (n := a * 256 + b) (by omega)).uniq h1
    have e2 := (W.fl (n := c * 256 + d) (by omega)).uniq h2
    omega

theorem boxed4 {w w1 : World} {g : Nat} {a b c d : Int} {t : TypeId} (hg : g = w.heap.size) (hw : w1 = w.alloc (.cells #[.int .u8 a, .int .u8 b, .int .u8 c, .int .u8 d] t)) :
    w1.cell? ⟨g, 0, none⟩ = some (.int .u8 a) ∧ w1.cell? ⟨g, 1, none⟩ = some (.int .u8 b) ∧ w1.cell? ⟨g, 2, none⟩ = some (.int .u8 c) ∧ w1.cell? ⟨g, 3, none⟩ = some (.int .u8 d) := by
  subst hg hw
  refine ⟨?_, ?_, ?_, ?_⟩
  all_goals
    rw [cell_of_row _ _ _ _ _ _ (World.alloc_heap_new w _)]
    simp

set_option maxRecDepth 100000 in
set_option maxHeartbeats 400000 in
theorem of_yes (a b c d : Int) (w : World) (ha : 0 ≤ a ∧ a ≤ 255) (hb : 0 ≤ b ∧ b ≤ 255) (hc : 0 ≤ c ∧ c ≤ 255) (hd : 0 ≤ d ∧ d ≤ 255) (h : a * 256 + b ≤ 10006 ∧ c * 256 + d ≤ 10006) :
    Calls Try.prog 9 #[agg4 [a, b, c, d]] w fun e w' => e = .returned (.tuple #[.complex .f64 (fl (a * 256 + b)) (fl (c * 256 + d)), .int .i64 0]) ∧ Below w.heap.size w w' := by
  have hp : Pt (fl (a * 256 + b)) (fl (c * 256 + d)) (a * 256 + b, c * 256 + d) := Pt.fl (inP_mk (by omega) h.1 (by omega) h.2)
  show Calls Try.prog 9 #[.agg #[.int .u8 a, .int .u8 b, .int .u8 c, .int .u8 d]] _ _
  go_enter Try.func9, Try.ntmps9
  go_wp2_with fail
  obtain ⟨g, hg⟩ : ∃ g, g = w.heap.size := ⟨_, rfl⟩
  obtain ⟨w1, hw1⟩ : ∃ w1, w1 = w.alloc (.cells #[.int .u8 a, .int .u8 b, .int .u8 c, .int .u8 d] 23) := ⟨_, rfl⟩
  obtain ⟨k0, k1, k2, k3⟩ := boxed4 hg hw1
  have hB : Below w.heap.size w w1 := by rw [hw1]; exact (Below.refl _ _).alloc (Nat.le_refl _) _
  rw [← hw1, ← hg]
  clear hw1 hg
  go_quiet (exact Calls.quiet_of_same (part_q _ _ _ (by assumption) (by assumption)))
  go_wp2_with fail
  refine (right_yes hp _).mono ?_
  rintro e w' ⟨rfl, rfl⟩
  go_wp2_with fail
  go_ret2
  exact ⟨rfl, below_drewN hB _⟩

set_option maxRecDepth 100000 in
set_option maxHeartbeats 400000 in
theorem of_no (a b c d : Int) (w : World) (ha : 0 ≤ a ∧ a ≤ 255) (hb : 0 ≤ b ∧ b ≤ 255) (hc : 0 ≤ c ∧ c ≤ 255) (hd : 0 ≤ d ∧ d ≤ 255) (h : 10006 < a * 256 + b ∨ 10006 < c * 256 + d) :
    Calls Try.prog 9 #[agg4 [a, b, c, d]] w fun e w' => e = .returned (.tuple #[.complex .f64 0 0, .int .i64 11]) ∧ Below w.heap.size w w' := by
  have Hp := Lib.hid (ofP_no h ha hb hc hd)
  show Calls Try.prog 9 #[.agg #[.int .u8 a, .int .u8 b, .int .u8 c, .int .u8 d]] _ _
  go_enter Try.func9, Try.ntmps9
  go_wp2_with fail
  obtain ⟨g, hg⟩ : ∃ g, g = w.heap.size := ⟨_, rfl⟩
  obtain ⟨w1, hw1⟩ : ∃ w1, w1 = w.alloc (.cells #[.int .u8 a, .int .u8 b, .int .u8 c, .int .u8 d] 23) := ⟨_, rfl⟩
  obtain ⟨k0, k1, k2, k3⟩ := boxed4 hg hw1
  have hB : Below w.heap.size w w1 := by rw [hw1]; exact (Below.refl _ _).alloc (Nat.le_refl _) _
  rw [← hw1, ← hg]
  clear hw1 hg
  go_quiet (exact Calls.quiet_of_same (part_q _ _ _ (by assumption) (by assumption)))
  go_wp2_with fail
  refine (right_no Hp.out _).mono ?_
  rintro e w' ⟨rfl, rfl⟩
  go_wp2_with fail
  go_ret2
  exact ⟨rfl, below_drewN hB _⟩

end Go.Proofs.Ythlngicfcmiedaa
