/-
  moultlaw06.wakes: it returns true.
-/
import Derived.Test.YtbaaghggilfpjaaAll
import Derived.Test.YtbaaghggilfpjaaNm
namespace Go.Proofs.Ytbaaghggilfpjaa
open Go.RowKit Go.Maps

theorem Es.made (w : World) (t : TypeId) (l : List EnP) {g : Nat} (hg : g = w.heap.size) : Es (w.alloc (.cells (l.flatMap EnP.cs).toArray t)) (w.alloc (.cells (l.flatMap EnP.cs).toArray t)).heap.size (some ⟨g, 0, none⟩) l.length l := by
  subst hg
  refine ⟨rfl, fun _ => ⟨w.heap.size, 0, rfl, by simp, fun i x hi j hj => ?_⟩⟩
  rw [cell_of_row _ _ _ _ _ _ (World.alloc_heap_new w _), Nat.zero_add, List.getElem?_toArray, flat_get EnP.cs (by omega) EnP.len, show (i * 3 + j) / 3 = i by omega, show (i * 3 + j) % 3 = j by omega, hi]
  rfl
def wakeL : List EnP := [⟨1, 2, 0⟩, ⟨1, 4, 0⟩, ⟨2, 3, 0⟩]
theorem wake_all : allP firstP wakeL = ⟨3, 2, 0, 2, true⟩ := by decide
theorem wake_next : nextP ⟨3, 2, 0, 2, true⟩ ⟨2, 1, 4⟩ = ⟨4, 2, 5, 2, true⟩ := by decide

set_option maxRecDepth 100000 in
set_option maxHeartbeats 2000000 in
theorem wakes_true (w : World) : Calls Try.prog 8 #[] w fun e w' => e = .returned (.bool true) ∧ Below w.heap.size w w' := by
  have q1 : ∀ w, (binOp .eql 23 (.agg #[.int .i64 3, .int .i64 2, .int .i64 0, .int .i64 2, .bool true]) (.agg #[.int .i64 3, .int .i64 2, .int .i64 0, .int .i64 2, .bool true])).run Try.prog w = .ok (.bool true) w := fun w => eql_st ⟨3, 2, 0, 2, true⟩ ⟨3, 2, 0, 2, true⟩ w
  go_enter Try.func8, Try.ntmps8
  go_wp2_with fail
  refine (first_any w).mono ?_
  rintro e w1 ⟨rfl, hb1⟩
  unfold StP.v firstP
  go_wp2_with fail
  have hE := Es.made w1 25 wakeL rfl
  have hA := all_any firstP (some ⟨w1.heap.size, 0, none⟩) 3 3 wakeL _ hE (by omega)
  rw [wake_all] at hA
  refine hA.mono ?_
  rintro e w2 ⟨rfl, hb2⟩
  unfold StP.v
  have hB2 : Below w.heap.size w w2 := below_on (below_al hb1 _) hb2
  clear hE hA hb2 hb1
  go_wp2_with fail
  obtain ⟨b, hb⟩ : ∃ b, b = w2.heap.size := ⟨_, rfl⟩
  obtain ⟨w3, hw3⟩ : ∃ w3, w3 = w2.alloc (.cells #[.int .i64 3, .int .i64 2, .int .i64 0, .int .i64 2, .bool true] 23) := ⟨_, rfl⟩
  have hB3 : Below w.heap.size w w3 := by rw [hw3]; exact below_al hB2 _
  have bb3 : BoxS w3 b ⟨3, 2, 0, 2, true⟩ := by rw [hw3, hb]; exact BoxS.new w2 ⟨3, 2, 0, 2, true⟩
  rw [← hw3, ← hb]
  clear hw3 hb hB2
  have hN := next_any ⟨3, 2, 0, 2, true⟩ ⟨2, 1, 4⟩ w3
  rw [wake_next] at hN
  refine hN.mono ?_
  rintro e w4 ⟨rfl, hb4⟩
  unfold StP.v
  have hB4 : Below w.heap.size w w4 := below_on hB3 hb4
  have bb4 := bb3.below hb4
  clear hN hb4 hB3 bb3
  obtain ⟨d, hd⟩ : ∃ d, d = w4.heap.size := ⟨_, rfl⟩
  obtain ⟨w5, hw5⟩ : ∃ w5, w5 = w4.alloc (.cells #[.int .i64 4, .int .i64 2, .int .i64 5, .int .i64 2, .bool true] 23) := ⟨_, rfl⟩
  have hB5 : Below w.heap.size w w5 := by rw [hw5]; exact below_al hB4 _
  have bd5 : BoxS w5 d ⟨4, 2, 5, 2, true⟩ := by rw [hw5, hd]; exact BoxS.new w4 ⟨4, 2, 5, 2, true⟩
  have bb5 : BoxS w5 b ⟨3, 2, 0, 2, true⟩ := bb4.below (by rw [hw5]; exact below_al (below_d0 _) _)
  have H5 := Lib.hid (⟨hB5, bd5, bb5⟩ : _ ∧ _ ∧ _)
  clear bb4 hB4 hB5 bd5 bb5
  go_upto_region 3 with fail
  rw [← hw5, ← hd]
  clear hw5 hd
  obtain ⟨k0, k1, k2, k3, k4⟩ := H5.out.2.1.cells
  obtain ⟨c0, c1, c2, c3, c4⟩ := H5.out.2.2.cells
  go_wp2_with fail
  clear k0 k1 k2 k3 k4 c0 c1 c2 c3 c4
  refine (name_any 3 w5).mono ?_
  rintro e w6 ⟨rfl, hb6⟩
  rw [show nameB 3 = ⟨#[114, 101, 118, 101, 114, 116]⟩ from rfl]
  go_wp2_with fail
  refine (name_any 5 w6).mono ?_
  rintro e w7 ⟨rfl, hb7⟩
  rw [show nameB 5 = ⟨#[]⟩ from rfl]
  go_wp2_with fail
  refine (right_any ⟨1, 0, 0⟩ w7).mono ?_
  rintro e w8 ⟨rfl, hb8⟩
  rw [show rightB ⟨1, 0, 0⟩ = true from by decide]
  go_wp2_with fail
  refine (right_any ⟨1, 0, 1⟩ w8).mono ?_
  rintro e w9 ⟨rfl, hb9⟩
  rw [show rightB ⟨1, 0, 1⟩ = false from by decide]
  have hb59 : Below w5.heap.size w5 w9 := below_on (below_on (below_on hb6 hb7) hb8) hb9
  have b9 := H5.out.2.2.below hb59
  have hB9 : Below w.heap.size w w9 := below_on H5.out.1 hb59
  obtain ⟨c0, c1, c2, c3, c4⟩ := b9.cells
  clear hb6 hb7 hb8 hb9 hb59 b9
  go_wp2_with fail
  refine (fine_any ⟨3, 2, 0, 2, true⟩ w9).mono ?_
  rintro e wa ⟨rfl, hba⟩
  rw [show fineB ⟨3, 2, 0, 2, true⟩ = true from by decide]
  go_wp2_with fail
  refine (fine_any ⟨0, 0, 0, 0, false⟩ wa).mono ?_
  rintro e wb ⟨rfl, hbb⟩
  rw [show fineB ⟨0, 0, 0, 0, false⟩ = false from by decide]
  go_wp2_with fail
  go_ret
  exact ⟨rfl, below_on (below_on hB9 hba) hbb⟩

end Go.Proofs.Ytbaaghggilfpjaa
