/-
  moultlaw11.wakes: it returns true.
-/
import Derived.Test.YtafeadplmcoilaaDoorSameL
namespace Go.Proofs.YtafeadplmcoilaaDoor
open Go.RowKit
set_option linter.unusedVariables false
set_option linter.unusedSimpArgs false

theorem Ids.on' {w w' : World} {B B' n : Nat} {A : Option Addr} {l : List IdP} (h : Ids w B A n l) (hb : Below B w w') (hB : B ≤ B') : Ids w' B' A n l := Row.on h hb hB
/-- The row of segments that a literal makes. -/
theorem sg_made (w : World) {l : List SegP} {t : TypeId} {g k : Nat} (hg : g = w.heap.size) (hk : l.length = k) : Sg (w.alloc (.cells (l.flatMap SegP.cs).toArray t)) (w.alloc (.cells (l.flatMap SegP.cs).toArray t)).heap.size (some ⟨g, 0, none⟩) k l := by
  subst hg
  refine ⟨hk, fun _ => ⟨w.heap.size, 0, rfl, by simp, fun i x hi j hj => ?_⟩⟩
  rw [cell_of_row _ _ _ _ _ _ (World.alloc_heap_new w _), Nat.zero_add, List.getElem?_toArray, flat_get SegP.cs (by omega) SegP.len, show (i * 4 + j) / 4 = i by omega, show (i * 4 + j) % 4 = j by omega, hi]
  rfl

set_option maxRecDepth 100000 in
set_option maxHeartbeats 4000000 in
theorem wakes_true (w : World) (hT : Cr.Tab w) : Calls Tryd.prog 9 #[] w fun e w' => e = .returned (.bool true) ∧ Below w.heap.size w w' := by
  have HT := Lib.hid hT
  obtain ⟨i0, hi, hi0, hi1, hi2⟩ := info_parts Cr.info_u8
  have HI := Lib.hid (⟨hi, hi1⟩ : _ ∧ _)
  clear hT hi hi0 hi1 hi2
  go_enter Tryd.func9, Tryd.ntmps9
  go_wp2_with fail
  refine Calls.mono (show Calls Tryd.prog 10 #[.agg #[.int .i64 1, .int .i64 0, .int .i64 0, .int .i64 0, .int .i64 0, .slice none 0 0]] w (PutT wM1 w) from put_any wM1 none 0 0 w HT.out Row.nil (by omega) (mok_may may_w1)) ?_
  intro e w1 hh
  obtain ⟨A1, c1, rfl, hc1, r1, bb⟩ := hh.yes may_w1 len_w1
  (try clear hh)
  have B1 := bb
  clear bb
  obtain ⟨z2, hz2⟩ : ∃ z, z = w1.heap.size := ⟨_, rfl⟩
  obtain ⟨w2, hw2⟩ : ∃ x, x = w1.alloc (.cells #[.int .i64 4, .int .i64 2, .int .i64 5, .int .i64 4, .int .i64 8, .int .i64 1, .int .i64 9, .int .i64 (-1)] 51) := ⟨_, rfl⟩
  have bb : Below w1.heap.size w1 w2 := by rw [hw2]; exact below_al (below_d0 _) _
  have S2 : Sg w2 w2.heap.size (some ⟨z2, 0, none⟩) 2 wM2.sg := by rw [hw2]; exact sg_made w1 hz2 rfl
  replace r1 := r1.on bb bb.size
  have B2 := B1.trans (bb.mono B1.size)
  clear bb B1
  obtain ⟨z3, hz3⟩ : ∃ z, z = w2.heap.size := ⟨_, rfl⟩
  obtain ⟨w3, hw3⟩ : ∃ x, x = w2.alloc (.cells #[.int .i64 9, .int .i64 3, .int .i64 1, .int .i64 2, .int .i64 1, .slice (some ⟨z2, 0, none⟩) 2 2] 26) := ⟨_, rfl⟩
  have bb : Below w2.heap.size w2 w3 := by rw [hw3]; exact below_al (below_d0 _) _
  have bm : BoxM w3 z3 wM2 (.slice (some ⟨z2, 0, none⟩) 2 2) := by rw [hw3, hz3]; exact BoxM.new w2 wM2 _
  replace r1 := r1.on bb bb.size
  replace S2 := S2.on bb bb.size
  have B3 := B2.trans (bb.mono B2.size)
  clear bb B2
  have hzz : z2 + 1 = z3 := by rw [hz3, hw2, hz2]; simp
  have HE := Lib.hid (⟨hz2, hw2, hw3, hzz⟩ : _ ∧ _ ∧ _ ∧ _)
  clear hw2 hz2 hw3 hz3 hzz
  go_wp2_with fail
  rw [← HE.out.1, ← HE.out.2.1, ← HE.out.2.2.1, HE.out.2.2.2]
  obtain ⟨q2, hq2⟩ : ∃ q, (manL wM2).length = q := ⟨_, rfl⟩
  have Hq2 := Lib.hid (show (manL wM2).length = q2 ∧ q2 ≤ 1235 from ⟨hq2, by have := (show IsMan wM2 (manL wM2) from ⟨may_w2, rfl⟩).len; omega⟩)
  clear hq2
  refine Calls.mono (show Calls Tryd.prog 10 #[.agg #[.int .i64 9, .int .i64 3, .int .i64 1, .int .i64 2, .int .i64 1, .slice (some ⟨z2, 0, none⟩) 2 2]] w3 (PutT wM2 w3) from put_any wM2 (some ⟨z2, 0, none⟩) 2 2 w3 (HT.out.on B3) S2 (by omega) (mok_may may_w2)) ?_
  intro e w4 hh
  obtain ⟨A4, c4, rfl, hc4, r4, bb⟩ := hh.yes may_w2 Hq2.out.1
  (try clear hh)
  replace bm := bm.below bb
  replace r1 := r1.on bb bb.size
  replace S2 := S2.on bb bb.size
  have B4 := B3.trans (bb.mono B3.size)
  clear bb B3
  go_wp2_with fail
  refine Calls.mono (take_any A4 q2 c4 (manL wM2) w4 (HT.out.on B4) r4 (manL_byt may_w2) hc4 (by have := Hq2.out.2; omega)) ?_
  intro e w5 hh
  obtain ⟨A5, c5, rfl, hc5, hS5, bb⟩ := hh.yes (⟨may_w2, rfl⟩ : IsMan wM2 (manL wM2)) (n := 2) rfl
  (try clear hh)
  replace bm := bm.below bb
  replace r1 := r1.on bb bb.size
  replace S2 := S2.on bb bb.size
  have B5 := B4.trans (bb.mono B4.size)
  clear bb B4
  have S5 := hS5.sg
  clear hS5 r4
  rw [show manV wM2 (.slice A5 2 c5) = .agg #[.int .i64 9, .int .i64 3, .int .i64 1, .int .i64 2, .int .i64 1, .slice A5 2 c5] from rfl]
  obtain ⟨z6, hz6⟩ : ∃ z, z = w5.heap.size := ⟨_, rfl⟩
  obtain ⟨w6, hw6⟩ : ∃ x, x = w5.alloc (.cells #[.int .i64 9, .int .i64 3, .int .i64 1, .int .i64 2, .int .i64 1, .slice A5 2 c5] 26) := ⟨_, rfl⟩
  have bb : Below w5.heap.size w5 w6 := by rw [hw6]; exact below_al (below_d0 _) _
  have bn : BoxM w6 z6 wM2 (.slice A5 2 c5) := by rw [hw6, hz6]; exact BoxM.new w5 wM2 _
  replace bm := bm.below bb
  replace r1 := r1.on bb bb.size
  replace S2 := S2.on bb bb.size
  replace S5 := S5.on bb bb.size
  have B6 := B5.trans (bb.mono B5.size)
  clear bb B5
  go_wp2_with fail
  rw [← hw6, ← hz6]
  clear hw6 hz6
  refine Calls.mono (show Calls Tryd.prog 14 #[.agg #[.int .i64 9, .int .i64 3, .int .i64 1, .int .i64 2, .int .i64 1, .slice A5 2 c5]] w6 (fun e w' => (∃ i ok, OpenIs wM2 i ok ∧ e = .returned (.tuple #[.int .i64 i, .bool ok])) ∧ Below w6.heap.size w6 w') from open_any wM2 A5 2 c5 w6 S5 (by omega)) ?_
  intro e w7 hh
  obtain ⟨⟨i, ok, hop, rfl⟩, bb⟩ := hh
  (try clear hh)
  replace bm := bm.below bb
  replace bn := bn.below bb
  replace r1 := r1.on bb bb.size
  replace S2 := S2.on bb bb.size
  replace S5 := S5.on bb bb.size
  have B7 := B6.trans (bb.mono B6.size)
  clear bb B6
  obtain ⟨rfl, rfl⟩ := hop.same open_w2
  clear hop
  go_wp2_with fail
  refine Calls.mono (show Calls Tryd.prog 10 #[.agg #[.int .i64 0, .int .i64 0, .int .i64 0, .int .i64 0, .int .i64 0, .slice none 0 0]] w7 (PutT noneM w7) from put_any noneM none 0 0 w7 (HT.out.on B7) Row.nil (by omega) mok_none) ?_
  intro e w8 hh
  obtain ⟨A8, c8, rfl, bb⟩ := hh.no may_none
  (try clear hh)
  replace bm := bm.below bb
  replace bn := bn.below bb
  replace r1 := r1.on bb bb.size
  replace S2 := S2.on bb bb.size
  replace S5 := S5.on bb bb.size
  have B8 := B7.trans (bb.mono B7.size)
  clear bb B7
  obtain ⟨k0, k1, k2, k3, k4, k5⟩ := bm.cells
  dsimp only [wM2] at k0 k1 k2 k3 k4
  go_wp2_with fail
  clear k0 k1 k2 k3 k4 k5
  refine Calls.mono (show Calls Tryd.prog 21 #[.agg #[.int .i64 9, .int .i64 3, .int .i64 1, .int .i64 2, .int .i64 1, .slice (some ⟨z2, 0, none⟩) 2 2]] w8 (fun e w' => (∃ A' q c', e = .returned (.slice A' q c') ∧ q ≤ c' ∧ q = (keepP wM2).length ∧ OwnI w' w8.heap.size (.slice A' q c') q (keepP wM2)) ∧ Below w8.heap.size w8 w') from keep_any wM2 (some ⟨z2, 0, none⟩) 2 2 w8 S2 (by omega)) ?_
  intro e w9 hh
  obtain ⟨⟨A9, q9, c9, rfl, hc9, hq9, hI9⟩, bb⟩ := hh
  (try clear hh)
  replace bm := bm.below bb
  replace bn := bn.below bb
  replace r1 := r1.on bb bb.size
  replace S2 := S2.on bb bb.size
  replace S5 := S5.on bb bb.size
  have B9 := B8.trans (bb.mono B8.size)
  clear bb B8
  have I9 := hI9.ids
  clear hI9
  rw [keep_w2] at I9 hq9
  obtain rfl : q9 = 4 := hq9
  obtain ⟨z10, hz10⟩ : ∃ z, z = w9.heap.size := ⟨_, rfl⟩
  obtain ⟨w10, hw10⟩ : ∃ x, x = w9.alloc (.cells #[.int .u8 77, .int .u8 1, .int .u8 0, .int .u8 0, .int .u8 0, .int .u8 0, .int .u8 0] 5) := ⟨_, rfl⟩
  have bb : Below w9.heap.size w9 w10 := by rw [hw10]; exact below_al (below_d0 _) _
  have rl : Rd w10 w10.heap.size .u8 (some ⟨z10, 0, none⟩) 7 [77, 1, 0, 0, 0, 0, 0] := by rw [hw10]; exact Nu.Rd.made w9 .u8 5 [77, 1, 0, 0, 0, 0, 0] hz10
  replace bm := bm.below bb
  replace bn := bn.below bb
  replace r1 := r1.on bb bb.size
  replace S2 := S2.on bb bb.size
  replace S5 := S5.on bb bb.size
  replace I9 := I9.on bb bb.size
  have B10 := B9.trans (bb.mono B9.size)
  clear bb B9
  have hsl : ∀ W : World, (Instr.slice 27 (.slice A1 11 c1) none (some (.int .i64 7)) none).run Tryd.prog W = .ok (.slice A1 7 c1) W := fun W => Cr.cut_first Tryd.underlying27 HI.out.1 HI.out.2 A1 11 c1 7 (by omega) W
  go_wp2_with fail
  rw [← hw10, ← hz10]
  clear hsl
  have hsm := same_any A1 (some ⟨z10, 0, none⟩) 7 7 c1 7 ((manL wM1).take 7) [77, 1, 0, 0, 0, 0, 0] w10 (r1.first (by omega)) rl ((manL_byt may_w1).take 7) (by rw [← cut_w1]; exact (manL_byt may_w1).take 7)
  rw [show Cr.eqB ((manL wM1).take 7) [77, 1, 0, 0, 0, 0, 0] = true from Cr.eqB_iff.2 cut_w1] at hsm
  clear hw10 hz10
  refine Calls.mono (hsm) ?_
  rintro e wv ⟨rfl, rfl⟩
  obtain ⟨k0, k1, k2, k3, k4, k5⟩ := bm.cells
  obtain ⟨g0, g1, g2, g3, g4, g5⟩ := bn.cells
  dsimp only [wM2] at k0 k1 k2 k3 k4 g0 g1 g2 g3 g4
  clear hsm rl
  go_wp2_with fail
  clear k0 k1 k2 k3 k4 k5
  clear g0 g1 g2 g3 g4 g5
  refine Calls.mono (show Calls Tryd.prog 17 #[.agg #[.int .i64 9, .int .i64 3, .int .i64 1, .int .i64 2, .int .i64 1, .slice (some ⟨z2, 0, none⟩) 2 2], .agg #[.int .i64 9, .int .i64 3, .int .i64 1, .int .i64 2, .int .i64 1, .slice A5 2 c5]] w10 (fun e w' => (∃ b, SameM wM2 wM2 b ∧ e = .returned (.bool b)) ∧ Below w10.heap.size w10 w') from rsameM_any wM2 wM2 (some ⟨z2, 0, none⟩) A5 2 2 2 c5 w10 S2 S5 (by omega) (by omega)) ?_
  intro e w11 hh
  obtain ⟨⟨b, hsb, rfl⟩, bb⟩ := hh
  (try clear hh)
  replace bm := bm.below bb
  replace bn := bn.below bb
  replace r1 := r1.on bb bb.size
  replace S2 := S2.on bb bb.size
  replace S5 := S5.on bb bb.size
  replace I9 := I9.on bb bb.size
  have B11 := B10.trans (bb.mono B10.size)
  clear bb B10
  obtain rfl := hsb.same same_w2
  clear hsb
  obtain ⟨gi, oi, x, hA9, -, hx, m0, m1, m2⟩ := Ids.get I9 (show 1 < 4 by omega)
  obtain rfl : x = ⟨4, 2, 1⟩ := (Option.some.inj hx).symm
  subst hA9
  dsimp only at m0 m1 m2
  have heq := fun w => eql_yes (k := 4) (s := 2) (f := 1) (k' := 4) (s' := 2) (f' := 1) ⟨rfl, rfl, rfl⟩ w
  clear hx
  obtain ⟨k0, k1, k2, k3, k4, k5⟩ := bm.cells
  dsimp only [wM2] at k0 k1 k2 k3 k4
  go_wp2_with fail
  clear k0 k1 k2 k3 k4 k5
  clear heq m0 m1 m2
  refine Calls.mono (show Calls Tryd.prog 23 #[.agg #[.int .i64 9, .int .i64 3, .int .i64 1, .int .i64 2, .int .i64 1, .slice (some ⟨z2, 0, none⟩) 2 2]] w11 (fun e w' => (∃ b, TwoIs wM2 b ∧ e = .returned (.bool b)) ∧ Below w11.heap.size w11 w') from two_any wM2 (some ⟨z2, 0, none⟩) 2 2 w11 S2 (by omega)) ?_
  intro e w12 hh
  obtain ⟨⟨b, htb, rfl⟩, bb⟩ := hh
  (try clear hh)
  replace bm := bm.below bb
  replace bn := bn.below bb
  replace r1 := r1.on bb bb.size
  replace S2 := S2.on bb bb.size
  replace S5 := S5.on bb bb.size
  replace I9 := I9.on bb bb.size
  have B12 := B11.trans (bb.mono B11.size)
  clear bb B11
  obtain rfl := htb.same two_w2
  clear htb
  go_wp2_with fail
  refine Calls.mono (show Calls Tryd.prog 23 #[.agg #[.int .i64 0, .int .i64 0, .int .i64 0, .int .i64 0, .int .i64 0, .slice none 0 0]] w12 (fun e w' => (∃ b, TwoIs noneM b ∧ e = .returned (.bool b)) ∧ Below w12.heap.size w12 w') from two_any noneM none 0 0 w12 Row.nil (by omega)) ?_
  intro e w13 hh
  obtain ⟨⟨b, htb, rfl⟩, bb⟩ := hh
  (try clear hh)
  replace bm := bm.below bb
  replace bn := bn.below bb
  replace r1 := r1.on bb bb.size
  replace S2 := S2.on bb bb.size
  replace S5 := S5.on bb bb.size
  replace I9 := I9.on bb bb.size
  have B13 := B12.trans (bb.mono B12.size)
  clear bb B12
  obtain rfl := htb.same two_none
  clear htb
  go_wp2_with fail
  go_ret
  exact ⟨rfl, B13⟩
end Go.Proofs.YtafeadplmcoilaaDoor
