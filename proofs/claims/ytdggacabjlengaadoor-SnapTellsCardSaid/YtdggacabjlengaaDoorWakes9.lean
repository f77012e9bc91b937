/-
  moultlaw09.wakes: it returns true.
-/
import Derived.Test.YtdggacabjlengaaDoorAgain9
namespace Go.Proofs.YtdggacabjlengaaDoor
open Go.RowKit
set_option linter.unusedVariables false
set_option linter.unusedSimpArgs false

theorem Told.yes {w w' : World} {R : List Int × Int} {e : Ending} {L : List Int} {n : Nat} (h : Told w R e w') (hR : R = (L, 0)) (hn : L.length = n) : ∃ A c, e = .returned (.tuple #[.slice A n c, .int .i64 0]) ∧ n ≤ c ∧ Rd w' w'.heap.size .u8 A n L ∧ Below w.heap.size w w' := by
  subst hR hn
  obtain ⟨⟨A, c, h1, h2, h3⟩, hb⟩ := h
  exact ⟨A, c, h1, h2, h3, hb⟩
theorem Told.no {w w' : World} {R : List Int × Int} {e : Ending} {er : Int} (h : Told w R e w') (hR : R = ([], er)) : ∃ A c, e = .returned (.tuple #[.slice A 0 c, .int .i64 er]) ∧ Below w.heap.size w w' := by
  subst hR
  obtain ⟨⟨A, c, h1, h2, h3⟩, hb⟩ := h
  exact ⟨A, c, h1, hb⟩
theorem TakeT.yes {w w' : World} {b : List Int} {f : Int} {e : Ending} {s : StP} (h : TakeT b f w e w') (hs : IsSnap s f b) : e = .returned (.tuple #[s.v, .int .i64 0]) ∧ Below w.heap.size w w' := by
  obtain ⟨⟨t, er, ht, he⟩, hb⟩ := h
  obtain ⟨rfl, rfl⟩ := ht.yes hs
  exact ⟨he, hb⟩
theorem TakeT.no {w w' : World} {b : List Int} {f : Int} {e : Ending} (h : TakeT b f w e w') (hs : ∀ s, ¬ IsSnap s f b) : e = .returned (.tuple #[noneP.v, .int .i64 11]) ∧ Below w.heap.size w w' := by
  obtain ⟨⟨t, er, ht, he⟩, hb⟩ := h
  obtain ⟨rfl, rfl⟩ := ht.no hs
  exact ⟨he, hb⟩
theorem AgainIs.yes {b : List Int} {f t : Int} {R : List Int × Int} {s : StP} (h : AgainIs b f t R) (hs : IsSnap s f b) : R = putP s t := h.same ⟨s, 0, .inl ⟨rfl, hs⟩, .inr ⟨rfl, rfl⟩⟩
theorem first_fineB : fineB firstP = true := by decide
theorem none_fineB : fineB noneP = false := by decide
theorem first_text : textL firstP = [0, 0, 0, 1, 0] := by
  have h0 := Nu.short_1 (n := 0) (by omega) (by omega)
  have h1 := Nu.short_1 (n := 1) (by omega) (by omega)
  simp [textL, stN, firstP, bitI, Nu.shortsOf, h0, h1]
theorem snap_of {s : StP} {f : Int} (h : fineB s = true) (hf : FmtP f) : IsSnap s f (snapL s f) := ⟨h, hf, rfl⟩
/-- What wakes asks. -/
theorem wake9 : ∃ B C : List Int, (putP firstP 1 = (B, 0) ∧ putP firstP 2 = (C, 0)) ∧ (B.length = 22 ∧ C.length = 15) ∧ (B[0]?.getD 0 = 1 ∧ B[16]?.getD 0 = 1 ∧ B[17]?.getD 0 = 0 ∧ C[0]?.getD 0 = 2 ∧ C[1]?.getD 0 = 2) ∧ (IsSnap firstP 1 B ∧ IsSnap firstP 2 C) ∧ (∀ s, ¬ IsSnap s 1 C) := by
  refine ⟨snapL firstP 1, snapL firstP 2, ⟨putP_yes first_fineB (.inl rfl), putP_yes first_fineB (.inr rfl)⟩, ?_, ?_, ⟨snap_of first_fineB (.inl rfl), snap_of first_fineB (.inr rfl)⟩, ?_⟩
  · rw [snapL_one, snapL_two, snap1_length, snap2_length, first_text]
    exact ⟨rfl, rfl⟩
  · rw [snapL_one, snapL_two]
    obtain ⟨_, h1, h2⟩ := one_parts firstP
    refine ⟨rfl, h1, h2, rfl, ?_⟩
    show manyL (textL firstP) = 2
    rw [first_text]
    rfl
  · rw [snapL_two]
    exact fun s => one_len (by rw [snap2_length, first_text]; decide)

set_option maxRecDepth 100000 in
set_option maxHeartbeats 4000000 in
theorem wakes_true (w : World) (hT : Cr.Tab w) : Calls Tryd.prog 8 #[] w fun e w' => e = .returned (.bool true) ∧ Below w.heap.size w w' := by
  obtain ⟨B, C, hp, hlen, hc, hs, hno⟩ := wake9
  have HP := Lib.hid (⟨hp, hlen, hc, hs, hno, hT⟩ : _ ∧ _ ∧ _ ∧ _ ∧ _ ∧ _)
  clear hp hlen hc hs hno hT
  have q1 : ∀ w : World, (binOp .eql 23 (.agg #[.int .i64 0, .int .i64 0, .int .i64 0, .int .i64 1, .bool false]) (.agg #[.int .i64 0, .int .i64 0, .int .i64 0, .int .i64 1, .bool false])).run Tryd.prog w = .ok (.bool true) w := fun w => by
    have h := eql_st firstP firstP w
    rw [decide_eq_true rfl] at h
    exact h
  have Q1 := Lib.hid q1
  obtain ⟨z, hz⟩ : ∃ z, z = w.heap.size := ⟨_, rfl⟩
  obtain ⟨w1, hw1⟩ : ∃ x, x = w.alloc (.cells #[.int .i64 0, .int .i64 0, .int .i64 0, .int .i64 1, .bool false] 23) := ⟨_, rfl⟩
  have bz : BoxS w1 z firstP := by rw [hw1, hz]; exact BoxS.new w firstP
  have B1 : Below w.heap.size w w1 := by rw [hw1]; exact (Below.refl _ _).alloc (Nat.le_refl _) _
  obtain ⟨k0, k1, k2, k3, k4⟩ := bz.cells
  dsimp only [firstP] at k0 k1 k2 k3 k4
  rw [hw1, hz] at k0 k1 k2 k3 k4
  have H1 := Lib.hid (⟨hw1, hz⟩ : _ ∧ _)
  clear hw1 hz q1
  go_enter Tryd.func8, Tryd.ntmps8
  go_wp2_with fail
  rw [← H1.out.1, ← H1.out.2]
  clear k0 k1 k2 k3 k4
  refine Calls.mono (show Calls Tryd.prog 9 #[.agg #[.int .i64 0, .int .i64 0, .int .i64 0, .int .i64 1, .bool false], .int .i64 1] w1 (Told w1 (putP firstP 1)) from Put_any firstP 1 w1 (HP.out.2.2.2.2.2.on B1)) ?_
  intro e w2 hh
  obtain ⟨A1, c1, rfl, hc1, r1, bb⟩ := hh.yes HP.out.1.1 HP.out.2.1.1
  clear hh
  replace bz := bz.below bb
  have B2 := B1.trans (bb.mono B1.size)
  clear bb B1
  obtain ⟨k0, k1, k2, k3, k4⟩ := bz.cells
  dsimp only [firstP] at k0 k1 k2 k3 k4
  go_wp2_with fail
  clear k0 k1 k2 k3 k4
  refine Calls.mono (show Calls Tryd.prog 9 #[.agg #[.int .i64 0, .int .i64 0, .int .i64 0, .int .i64 1, .bool false], .int .i64 2] w2 (Told w2 (putP firstP 2)) from Put_any firstP 2 w2 (HP.out.2.2.2.2.2.on B2)) ?_
  intro e w3 hh
  obtain ⟨A2, c2, rfl, hc2, r2, bb⟩ := hh.yes HP.out.1.2 HP.out.2.1.2
  clear hh
  replace bz := bz.below bb
  replace r1 := r1.on bb bb.size
  have B3 := B2.trans (bb.mono B2.size)
  clear bb B2
  go_wp2_with fail
  refine Calls.mono (Take_any A2 15 c2 C 2 w3 (HP.out.2.2.2.2.2.on B3) r2 HP.out.2.2.2.1.2.byt hc2 (by decide)) ?_
  intro e w4 hh
  obtain ⟨rfl, bb⟩ := hh.yes HP.out.2.2.2.1.2
  clear hh
  replace bz := bz.below bb
  replace r1 := r1.on bb bb.size
  replace r2 := r2.on bb bb.size
  have B4 := B3.trans (bb.mono B3.size)
  clear bb B3
  rw [show firstP.v = .agg #[.int .i64 0, .int .i64 0, .int .i64 0, .int .i64 1, .bool false] from rfl]
  obtain ⟨z2, hz2⟩ : ∃ z, z = w4.heap.size := ⟨_, rfl⟩
  obtain ⟨w5, hw5⟩ : ∃ x, x = w4.alloc (.cells #[.int .i64 0, .int .i64 0, .int .i64 0, .int .i64 1, .bool false] 23) := ⟨_, rfl⟩
  have bz2 : BoxS w5 z2 firstP := by rw [hw5, hz2]; exact BoxS.new w4 firstP
  have bb : Below w4.heap.size w4 w5 := by rw [hw5]; exact (Below.refl _ _).alloc (Nat.le_refl _) _
  replace bz := bz.below bb
  replace r1 := r1.on bb bb.size
  replace r2 := r2.on bb bb.size
  have B5 := B4.trans (bb.mono B4.size)
  clear bb B4
  go_wp2_with fail
  rw [← hw5, ← hz2]
  clear hw5 hz2
  refine Calls.mono (Take_any A2 15 c2 C 1 w5 (HP.out.2.2.2.2.2.on B5) r2 HP.out.2.2.2.1.2.byt hc2 (by decide)) ?_
  intro e w6 hh
  obtain ⟨rfl, bb⟩ := hh.no HP.out.2.2.2.2.1
  clear hh
  replace bz := bz.below bb
  replace bz2 := bz2.below bb
  replace r1 := r1.on bb bb.size
  replace r2 := r2.on bb bb.size
  have B6 := B5.trans (bb.mono B5.size)
  clear bb B5
  rw [show noneP.v = .agg #[.int .i64 0, .int .i64 0, .int .i64 0, .int .i64 0, .bool false] from rfl]
  obtain ⟨z3, hz3⟩ : ∃ z, z = w6.heap.size := ⟨_, rfl⟩
  obtain ⟨w7, hw7⟩ : ∃ x, x = w6.alloc (.cells #[.int .i64 0, .int .i64 0, .int .i64 0, .int .i64 0, .bool false] 23) := ⟨_, rfl⟩
  have bz3 : BoxS w7 z3 noneP := by rw [hw7, hz3]; exact BoxS.new w6 noneP
  have bb : Below w6.heap.size w6 w7 := by rw [hw7]; exact (Below.refl _ _).alloc (Nat.le_refl _) _
  replace bz := bz.below bb
  replace bz2 := bz2.below bb
  replace r1 := r1.on bb bb.size
  replace r2 := r2.on bb bb.size
  have B7 := B6.trans (bb.mono B6.size)
  clear bb B6
  obtain ⟨k0, k1, k2, k3, k4⟩ := bz.cells
  dsimp only [firstP] at k0 k1 k2 k3 k4
  rw [hw7] at k0 k1 k2 k3 k4
  go_wp2_with fail
  rw [← hw7, ← hz3]
  clear k0 k1 k2 k3 k4 hw7 hz3 bz3
  refine Calls.mono (show Calls Tryd.prog 9 #[.agg #[.int .i64 0, .int .i64 0, .int .i64 0, .int .i64 1, .bool false], .int .i64 3] w7 (Told w7 (putP firstP 3)) from Put_any firstP 3 w7 (HP.out.2.2.2.2.2.on B7)) ?_
  intro e w8 hh
  obtain ⟨A4, c4, rfl, bb⟩ := hh.no (putP_no (fun h => by have := h.2; unfold FmtP at this; omega))
  clear hh
  replace bz := bz.below bb
  replace bz2 := bz2.below bb
  replace r1 := r1.on bb bb.size
  replace r2 := r2.on bb bb.size
  have B8 := B7.trans (bb.mono B7.size)
  clear bb B7
  go_wp2_with fail
  refine Calls.mono (show Calls Tryd.prog 9 #[.agg #[.int .i64 0, .int .i64 0, .int .i64 0, .int .i64 0, .bool false], .int .i64 1] w8 (Told w8 (putP noneP 1)) from Put_any noneP 1 w8 (HP.out.2.2.2.2.2.on B8)) ?_
  intro e w9 hh
  obtain ⟨A5, c5, rfl, bb⟩ := hh.no (putP_no (fun h => by rw [none_fineB] at h; cases h.1))
  clear hh
  replace bz := bz.below bb
  replace bz2 := bz2.below bb
  replace r1 := r1.on bb bb.size
  replace r2 := r2.on bb bb.size
  have B9 := B8.trans (bb.mono B8.size)
  clear bb B8
  go_wp2_with fail
  refine Calls.mono (Again_any A1 22 c1 B 1 2 w9 (HP.out.2.2.2.2.2.on B9) r1 HP.out.2.2.2.1.1.byt hc1 (by decide)) ?_
  intro e w10 hh
  obtain ⟨R, hR, hh⟩ := hh
  obtain rfl := hR.yes HP.out.2.2.2.1.1
  obtain ⟨A6, c6, rfl, hc6, r6, bb⟩ := hh.yes HP.out.1.2 HP.out.2.1.2
  clear hh hR
  replace bz := bz.below bb
  replace bz2 := bz2.below bb
  replace r1 := r1.on bb bb.size
  replace r2 := r2.on bb bb.size
  have B10 := B9.trans (bb.mono B9.size)
  clear bb B9
  obtain ⟨k0, k1, k2, k3, k4⟩ := bz.cells
  dsimp only [firstP] at k0 k1 k2 k3 k4
  obtain ⟨g0, g1, g2, g3, g4⟩ := bz2.cells
  dsimp only [firstP] at g0 g1 g2 g3 g4
  obtain ⟨ba, oa, rfl, -, ha⟩ := r1.at_ (by omega)
  obtain ⟨bc, oc, rfl, -, hcc⟩ := r2.at_ (by omega)
  have a0 := ha 0 (by omega)
  have a16 := ha 16 (by omega)
  have a17 := ha 17 (by omega)
  have c0' := hcc 0 (by omega)
  have c1' := hcc 1 (by omega)
  obtain ⟨hv0, hv1, hv2, hv3, hv4⟩ := HP.out.2.2.1
  rw [hv0, Nat.add_zero] at a0
  rw [hv1] at a16
  rw [hv2] at a17
  rw [hv3, Nat.add_zero] at c0'
  rw [hv4] at c1'
  have hsm := same_any A6 (some ⟨bc, oc, none⟩) 15 15 c6 c2 C C w10 r6 r2 HP.out.2.2.2.1.2.byt HP.out.2.2.2.1.2.byt
  rw [show eqB C C = true from eqB_true rfl] at hsm
  have HS := Lib.hid hsm
  have q1 := Q1.out
  clear hsm ha hcc hv0 hv1 hv2 hv3 hv4 r1 r2 r6 bz bz2
  go_wp2_with fail
  refine Calls.mono HS.out ?_
  rintro e wf ⟨rfl, rfl⟩
  go_wp2_with fail
  go_ret
  exact ⟨rfl, B10⟩

end Go.Proofs.YtdggacabjlengaaDoor
