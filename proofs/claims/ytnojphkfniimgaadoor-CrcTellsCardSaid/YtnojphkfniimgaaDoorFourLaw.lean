/-
  CrcFour's walk: it returns true, and turns nothing that lay.
-/
import Derived.Test.YtnojphkfniimgaaDoorWakes
import Derived.ChangeKeysEq
import Derived.Laws.StructEq
import Derived.Laws.Rows
namespace Go.Proofs.YtnojphkfniimgaaDoor
open Go.RowKit

/-- '==' of four bytes. -/
theorem eql_four (a b c d a' b' c' d' : Int) (w : World) : (binOp .eql 33 (.agg #[.int .u8 a, .int .u8 b, .int .u8 c, .int .u8 d]) (.agg #[.int .u8 a', .int .u8 b', .int .u8 c', .int .u8 d'])).run Tryd.prog w = .ok (.bool (decide (a = a' ∧ b = b' ∧ c = c' ∧ d = d'))) w := by
  obtain ⟨i, hi, _, _, _⟩ := info_parts info_u8
  rw [run_eql_struct, run_equalIn_array w 9999 _ _ Tryd.underlying33 hi, show Tryd.prog.cellsOf 5 = 1 by kernel_rfl]
  by_cases h1 : a = a' <;> by_cases h2 : b = b' <;> by_cases h3 : c = c' <;> by_cases h4 : d = d' <;> simp [Op.eqItems, List.range, List.range.loop, part, go_sem, h1, h2, h3, h4]
theorem four_same {s t : Int} (hs : 0 ≤ s ∧ s < 4294967296) (ht : 0 ≤ t ∧ t < 4294967296) :
    decide (s % 256 = t % 256 ∧ s / 256 % 256 = t / 256 % 256 ∧ s / 65536 % 256 = t / 65536 % 256 ∧ s / 16777216 = t / 16777216) = decide (s = t) := by
  rw [decide_eq_decide]
  omega

/-- Four bytes of a box. -/
theorem boxed4 {w w1 : World} {g : Nat} {a b c d : Int} {t : TypeId} (hg : g = w.heap.size) (hw : w1 = w.alloc (.cells #[.int .u8 a, .int .u8 b, .int .u8 c, .int .u8 d] t)) :
    w1.cell? ⟨g, 0, none⟩ = some (.int .u8 a) ∧ w1.cell? ⟨g, 1, none⟩ = some (.int .u8 b) ∧ w1.cell? ⟨g, 2, none⟩ = some (.int .u8 c) ∧ w1.cell? ⟨g, 3, none⟩ = some (.int .u8 d) := by
  subst hg hw
  refine ⟨?_, ?_, ?_, ?_⟩
  all_goals
    rw [cell_of_row _ _ _ _ _ _ (World.alloc_heap_new w _)]
    simp

set_option maxRecDepth 100000 in
set_option maxHeartbeats 1000000 in
theorem four_all (s t : Int) (w : World) (hT : Tab w) (hs : 0 ≤ s ∧ s < 4294967296) (ht : 0 ≤ t ∧ t < 4294967296) :
    Calls Tryd.prog 7 #[.int .u32 s, .int .u32 t] w fun e w' => e = .returned (.bool true) ∧ Below w.heap.size w w' := by
  have q4 := fun w => eql_four (s % 256) (s / 256 % 256) (s / 65536 % 256) (s / 16777216) (t % 256) (t / 256 % 256) (t / 65536 % 256) (t / 16777216) w
  rw [four_same hs ht] at q4
  go_enter Tryd.func7, Tryd.ntmps7
  go_wp2_with fail
  refine (four_c s _ hs).mono ?_
  rintro e w1 ⟨rfl, hb1⟩
  have hsz := hb1.size
  go_wp2_with fail
  refine (four_c t _ ht).mono ?_
  rintro e w2 ⟨rfl, hb2⟩
  have hB := hb1.trans (hb2.mono hsz)
  clear hb1 hb2 hsz
  have hsz := hB.size
  go_wp2_with fail
  obtain ⟨g, hg⟩ : ∃ g, g = w2.heap.size := ⟨_, rfl⟩
  obtain ⟨w3, hw3⟩ : ∃ w3, w3 = w2.alloc (.cells #[.int .u8 (s % 256), .int .u8 (s / 256 % 256), .int .u8 (s / 65536 % 256), .int .u8 (s / 16777216)] 33) := ⟨_, rfl⟩
  obtain ⟨w4, hw4⟩ : ∃ w4, w4 = w3.alloc (.cells #[.int .u8 (t % 256), .int .u8 (t / 256 % 256), .int .u8 (t / 65536 % 256), .int .u8 (t / 16777216)] 33) := ⟨_, rfl⟩
  have hg' : g + 1 = w3.heap.size := by rw [hw3, hg]; simp
  obtain ⟨a0, a1, a2, a3⟩ := boxed4 hg hw3
  obtain ⟨b0, b1, b2, b3⟩ := boxed4 hg' hw4
  have hlt : g < w3.heap.size := by omega
  have hb4 : Below w3.heap.size w3 w4 := by rw [hw4]; exact (Below.refl _ _).alloc (Nat.le_refl _) _
  replace a0 := (hb4.cell (p := ⟨g, 0, none⟩) hlt).trans a0
  replace a1 := (hb4.cell (p := ⟨g, 1, none⟩) hlt).trans a1
  replace a2 := (hb4.cell (p := ⟨g, 2, none⟩) hlt).trans a2
  replace a3 := (hb4.cell (p := ⟨g, 3, none⟩) hlt).trans a3
  have hB4 : Below w.heap.size w w4 := by rw [hw4, hw3]; exact (hB.alloc hsz _).alloc (by simp; omega) _
  rw [← hw3, ← hw4, ← hg]
  have HT := Lib.hid (hT.on hB4)
  have H4 := Lib.hid hB4
  clear hw3 hw4 hg hg' hlt hb4 hB4 hB hsz hT
  go_loop [7, 8] (fun x i => (x = .int .u32 0 ∧ i = .int .i64 3) ∨ (x = .int .u32 (s / 16777216) ∧ i = .int .i64 2) ∨ (x = .int .u32 (s / 65536) ∧ i = .int .i64 1) ∨ (x = .int .u32 (s / 256) ∧ i = .int .i64 0) ∨ (x = .int .u32 s ∧ i = .int .i64 (-1))) (fun _ i => (intOf i + 1).toNat)
  case atStart => exact .inl ⟨rfl, rfl⟩
  case round =>
    rcases hrel with ⟨rfl, rfl⟩ | ⟨rfl, rfl⟩ | ⟨rfl, rfl⟩ | ⟨rfl, rfl⟩ | ⟨rfl, rfl⟩
    · go_wp2
      go_round
      case rel => exact .inr (.inl ⟨by go_num, rfl⟩)
      case measure => simp [intOf]
    · go_wp2
      go_round
      case rel => exact .inr (.inr (.inl ⟨by go_num, rfl⟩))
      case measure => simp [intOf]
    · go_wp2
      go_round
      case rel => exact .inr (.inr (.inr (.inl ⟨by go_num, rfl⟩)))
      case measure => simp [intOf]
    · go_wp2
      go_round
      case rel => exact .inr (.inr (.inr (.inr ⟨by go_num, rfl⟩)))
      case measure => simp [intOf]
    · go_wp2_with fail
      refine (wakes_any _ HT.out).mono ?_
      rintro e w' ⟨rfl, hbw⟩
      go_wp2_with fail
      go_ret
      exact ⟨rfl, H4.out.trans (hbw.mono H4.out.size)⟩

end Go.Proofs.YtnojphkfniimgaaDoor
