/-
  moultlaw02.wakes: it returns true.
-/
import Derived.Test.YthlngicfcmiedaaEq
namespace Go.Proofs.Ythlngicfcmiedaa
open Go.RowKit

theorem lit_45 : Pt 4616189618054758400 4617315517961601024 (4, 5) := pt_lit (by decide +kernel) (by decide +kernel) (by omega) (by omega)
theorem lit_01 : Pt 0 4607182418800017408 (0, 1) := pt_lit (by decide +kernel) (by decide +kernel) (by omega) (by omega)
theorem lit_103 : Pt 4666724821734785024 4613937818241073152 (10003, 3) := pt_lit (by decide +kernel) (by decide +kernel) (by omega) (by omega)
theorem no_half : ptB 4602678819172646912 0 = false := by decide +kernel

set_option maxRecDepth 100000 in
set_option maxHeartbeats 1000000 in
theorem wakes_any (w : World) : Calls Try.prog 8 #[] w fun e w' => e = .returned (.bool true) ∧ Below w.heap.size w w' := by
  have q4 := fun w => eql_same4 0 4 0 5 w
  go_enter Try.func8, Try.ntmps8
  go_wp2_with fail
  refine (chain_one _ _ _ (by simp) (.inl Pt.zero) (Rd.made w .u8 5 [0, 0] rfl) (byt_lit (by decide)) (by simp)).mono ?_
  rintro e w1 ⟨⟨x1, y1, rfl, h1⟩, hb1⟩
  have hB : Below w.heap.size w w1 := ((Below.refl _ w).alloc (Nat.le_refl _) _).trans (hb1.mono (by simp))
  clear hb1
  replace h1 : Pt x1 y1 (4, 5) := h1
  have hsz := hB.size
  go_wp2_with fail
  refine (of_out_no 39 23 0 0 _ (by omega) (by omega) (by omega) (by omega) (by omega)).mono ?_
  rintro e w2 ⟨rfl, hb⟩
  replace hB : Below w.heap.size w w2 := hB.trans (hb.mono hsz)
  clear hb hsz
  have hsz := hB.size
  go_wp2_with fail
  refine (of_out_yes 0 4 0 5 _ (by omega) (by omega) (by omega) (by omega) (by omega)).mono ?_
  rintro e w3 ⟨⟨x2, y2, rfl, h2⟩, hb⟩
  replace hB : Below w.heap.size w w3 := hB.trans (hb.mono hsz)
  clear hb hsz
  replace h2 : Pt x2 y2 (4, 5) := h2
  have hsz := hB.size
  obtain ⟨o1, o2⟩ := h1.order lit_45 rfl
  obtain ⟨o3, o4⟩ := h2.order h1 rfl
  go_wp2_with fail
  refine (bytes_out _ h1 (a := 0) (b := 4) (c := 0) (d := 5) (by decide)).mono ?_
  rintro e w4 ⟨rfl, hb⟩
  replace hB : Below w.heap.size w w4 := hB.trans (hb.mono hsz)
  clear hb hsz
  have hsz := hB.size
  go_wp2_with fail
  refine (right_yes h1 _).mono ?_
  rintro e w' ⟨rfl, rfl⟩
  go_wp2_with fail
  refine (right_no no_half _).mono ?_
  rintro e w' ⟨rfl, rfl⟩
  go_wp2_with fail
  refine (next_out _ lit_01 (by omega)).mono ?_
  rintro e w5 ⟨⟨x3, y3, rfl, h3⟩, hb⟩
  replace hB : Below w.heap.size w w5 := hB.trans (hb.mono hsz)
  clear hb hsz
  obtain ⟨o5, o6⟩ := h3.order lit_103 (by decide)
  go_wp2_with fail
  go_ret
  exact ⟨rfl, hB⟩

end Go.Proofs.Ythlngicfcmiedaa
