/-
  SnapHarm: it returns true.
-/
import Derived.Test.YtdggacabjlengaaDoorBack9
namespace Go.Proofs.YtdggacabjlengaaDoor
open Go.RowKit
set_option linter.unusedVariables false
set_option linter.unusedSimpArgs false

theorem place_two {n : Nat} (hn : n ≤ 100000) (h : 0 < n) (a : Int) : ∃ (q : Int) (k : Nat), Int.tmod a (n : Int) = q ∧ wrap64 (q + (n : Int)) = q + (n : Int) ∧ Int.tmod (q + (n : Int)) (n : Int) = (k : Int) ∧ (q + (n : Int)) % (n : Int) = (k : Int) ∧ k < n := by
  have h0 : (0 : Int) < (n : Int) := by omega
  have h1 := Int.lt_tmod_of_pos a h0
  have h1' := Int.tmod_lt_of_pos a h0
  have h2 := Int.tmod_nonneg (n : Int) (show 0 ≤ Int.tmod a (n : Int) + (n : Int) by omega)
  have h3 := Int.tmod_lt_of_pos (Int.tmod a (n : Int) + (n : Int)) h0
  have h4 : Int.tmod (Int.tmod a (n : Int) + (n : Int)) (n : Int) = (Int.tmod a (n : Int) + (n : Int)) % (n : Int) := Int.tmod_eq_emod_of_nonneg (by omega)
  exact ⟨_, (Int.tmod (Int.tmod a (n : Int) + (n : Int)) (n : Int)).toNat, rfl, by unfold wrap64; omega, by omega, by omega, by omega⟩

theorem own_some {w : World} {base size n : Nat} {e : TypeId} {v : Value} {xs : List Value} (h : w.ownsRow base e size v n xs) (hn : 0 < n) : ∃ g cap, v = .slice (some ⟨g, 0, none⟩) n cap := by
  rcases h.2 with ⟨_, h0⟩ | ⟨g, cap, cur, rfl, _⟩
  · omega
  · exact ⟨g, cap, rfl⟩
theorem byt_getD {F : List Int} (h : Byt F) (p : Nat) : 0 ≤ F[p]?.getD 0 ∧ F[p]?.getD 0 ≤ 255 := by
  cases hp : F[p]? with
  | none => simp
  | some x => exact h x (List.mem_of_getElem? hp)
theorem byt_set {F : List Int} (h : Byt F) (p : Nat) {x : Int} (hx : 0 ≤ x ∧ x ≤ 255) : Byt (F.set p x) := fun y hy => by
  rcases List.mem_or_eq_of_mem_set hy with h1 | rfl
  · exact h y h1
  · exact hx
theorem byt_one {x : Int} (h : 0 ≤ x ∧ x ≤ 255) : Byt [x] := fun y hy => by
  obtain rfl : y = x := List.mem_singleton.1 hy
  exact h
theorem xor_byte {x y : Int} (hx : 0 ≤ x ∧ x ≤ 255) (hy : 0 ≤ y ∧ y ≤ 255) : 0 ≤ bits .xor .u8 x y ∧ bits .xor .u8 x y ≤ 255 := by
  rw [Cr.xor_int hx hy]
  exact Cr.xor_int_range x y hx hy
theorem xor_zero {x : Int} (h : 0 ≤ x ∧ x ≤ 255) : bits .xor .u8 x 0 = x := by
  have key : ∀ k : Fin 256, bits .xor .u8 (k.val : Int) 0 = (k.val : Int) := by decide +kernel
  have := key ⟨x.toNat, by omega⟩
  rwa [show ((⟨x.toNat, by omega⟩ : Fin 256).val : Int) = x by show ((x.toNat : Nat) : Int) = x; omega] at this
theorem set_self {l : List Int} {p : Nat} {x : Int} (hp : p < l.length) (h : l[p]?.getD 0 = x) : l.set p x = l := by
  apply List.ext_getElem?
  intro i
  rw [List.getElem?_set]
  by_cases h1 : p = i
  · subst h1
    rw [if_pos rfl, if_pos hp, ← h, List.getElem?_eq_getElem hp]
    rfl
  · rw [if_neg h1]

set_option maxRecDepth 100000 in
set_option maxHeartbeats 4000000 in
theorem harm_no (s : StP) (f a y : Int) (w : World) (hT : Cr.Tab w) (hy : 0 ≤ y ∧ y ≤ 255) (hs : ¬ (fineB s = true ∧ FmtP f)) :
    Calls Tryd.prog 5 #[s.v, .int .i64 f, .int .i64 a, .int .u8 y] w fun e w' => e = .returned (.bool true) ∧ Below w.heap.size w w' := by
  have HT := Lib.hid hT
  clear hT
  have HP := Lib.hid (putP_no hs)
  clear hs
  obtain ⟨z, hz⟩ : ∃ z, z = w.heap.size := ⟨_, rfl⟩
  obtain ⟨w1, hw1⟩ : ∃ x, x = w.alloc (.cells #[.int .i64 s.ix, .int .i64 s.tm, .int .i64 s.sm, .int .i64 s.lv, .bool s.fn] 23) := ⟨_, rfl⟩
  have bz : BoxS w1 z s := by rw [hw1, hz]; exact BoxS.new w s
  have bb : Below w.heap.size w w1 := by rw [hw1]; exact (Below.refl _ _).alloc (Nat.le_refl _) _
  have B1 := bb
  clear bb
  obtain ⟨k0, k1, k2, k3, k4⟩ := bz.cells
  rw [hw1, hz] at k0 k1 k2 k3 k4
  unfold StP.v
  go_enter Tryd.func5, Tryd.ntmps5
  go_wp2_with fail
  rw [← hw1, ← hz]
  clear k0 k1 k2 k3 k4
  clear hw1 hz
  refine Calls.mono (show Calls Tryd.prog 9 #[.agg #[.int .i64 s.ix, .int .i64 s.tm, .int .i64 s.sm, .int .i64 s.lv, .bool s.fn], .int .i64 f] w1 (Told w1 (putP s f)) from Put_any s f w1 (HT.out.on B1)) ?_
  intro e w2 hh
  obtain ⟨A1, c1, rfl, bb⟩ := hh.no HP.out
  (try clear hh)
  replace bz := bz.below bb
  have B2 := B1.trans (bb.mono B1.size)
  clear bb B1
  go_wp2_with fail
  refine Calls.mono (wakes_true w2 (HT.out.on B2)) ?_
  rintro e w3 ⟨rfl, bb⟩
  replace bz := bz.below bb
  have B3 := B2.trans (bb.mono B2.size)
  clear bb B2
  go_wp2_with fail
  go_ret
  exact ⟨rfl, B3⟩
set_option maxRecDepth 100000 in
set_option maxHeartbeats 4000000 in
theorem harm_zero (s : StP) (f a y : Int) (w : World) (hT : Cr.Tab w) (hy : 0 ≤ y ∧ y ≤ 255) (hs : fineB s = true) (hf : FmtP f) (h0 : y = 0) :
    Calls Tryd.prog 5 #[s.v, .int .i64 f, .int .i64 a, .int .u8 y] w fun e w' => e = .returned (.bool true) ∧ Below w.heap.size w w' := by
  have HT := Lib.hid hT
  clear hT
  obtain ⟨i0, hi, hz0, hz1, hz2⟩ := info_parts Nu.info_byte
  obtain ⟨b, hb⟩ : ∃ b, b = snapL s f := ⟨_, rfl⟩
  obtain ⟨q, hq⟩ : ∃ q, b.length = q := ⟨_, rfl⟩
  have hp : putP s f = (b, 0) := by rw [hb]; exact putP_yes hs hf
  have hS : IsSnap s f b := ⟨hs, hf, hb⟩
  have hl := snap_len hs f
  rw [← hb, hq] at hl
  have hq0 : ((q : Int) == 0) = false := by simp; omega
  obtain ⟨q1, hq1⟩ : ∃ q1, q1 = q - 1 := ⟨_, rfl⟩
  have hsub : (q : Int) - 1 = (q1 : Int) := by omega
  have hle : q1 ≤ q := by omega
  have hql : q ≤ 60 := hl.2
  have hqp : 7 ≤ q := hl.1
  obtain ⟨t, p, pl0, pl1, pl2, pl3, hpq⟩ := place_two (n := q) (by omega) (by omega) a
  have v0 : (y == 0) = true := by simp; exact h0
  have HP := Lib.hid (⟨hp, hS, hq, hs, hy, h0, hq1⟩ : _ ∧ _ ∧ _ ∧ _ ∧ _ ∧ _ ∧ _)
  clear hp hS hq hs hb hf hl hy h0 hq1
  have n2 := eql_same s
  obtain ⟨z, hz⟩ : ∃ z, z = w.heap.size := ⟨_, rfl⟩
  obtain ⟨w1, hw1⟩ : ∃ x, x = w.alloc (.cells #[.int .i64 s.ix, .int .i64 s.tm, .int .i64 s.sm, .int .i64 s.lv, .bool s.fn] 23) := ⟨_, rfl⟩
  have bz : BoxS w1 z s := by rw [hw1, hz]; exact BoxS.new w s
  have bb : Below w.heap.size w w1 := by rw [hw1]; exact (Below.refl _ _).alloc (Nat.le_refl _) _
  have B1 := bb
  clear bb
  obtain ⟨k0, k1, k2, k3, k4⟩ := bz.cells
  rw [hw1, hz] at k0 k1 k2 k3 k4
  unfold StP.v
  go_enter Tryd.func5, Tryd.ntmps5
  go_wp2_with fail
  rw [← hw1, ← hz]
  clear k0 k1 k2 k3 k4
  clear hw1 hz
  refine Calls.mono (show Calls Tryd.prog 9 #[.agg #[.int .i64 s.ix, .int .i64 s.tm, .int .i64 s.sm, .int .i64 s.lv, .bool s.fn], .int .i64 f] w1 (Told w1 (putP s f)) from Put_any s f w1 (HT.out.on B1)) ?_
  intro e w2 hh
  obtain ⟨A1, c1, rfl, hc1, r1, bb⟩ := hh.yes HP.out.1 HP.out.2.2.1
  (try clear hh)
  replace bz := bz.below bb
  have B2 := B1.trans (bb.mono B1.size)
  clear bb B1
  go_wp2_with (at_builtin; refine hold ?_)
  refine unhold (wpList_append (.tmp 44) (.tmp 45) 24 Tryd.underlying24 hi hz0 hz1 hz2 Nu.byte_cells (by decide) (own_empty w2 w2.heap.size 5 1 (Nat.le_refl _)) ((Source.rd r1).alloc _) (by unfold maxLen; omega) (by omega) (by simp) rfl rfl rfl rfl ?_)
  intro va wa La
  obtain ⟨Aa, ca, rfl, hca, owna, ba, na⟩ := La.made
  clear La
  obtain ⟨g, capa, hea⟩ := own_some owna (Nat.lt_of_le_of_lt (Nat.zero_le _) hpq)
  cases hea
  have hg := na g rfl
  obtain ⟨x, hx⟩ : ∃ x, b[p]?.getD 0 = x := ⟨_, rfl⟩
  have hFl := HP.out.2.2.1
  have hcd : wa.cell? ⟨g, p, none⟩ = some (.int .u8 x) := by
    rw [owna.cellAt p (by rw [Nat.mul_one]; exact hpq), List.getElem?_map, ← hx, List.getElem?_eq_getElem (by rw [hFl]; exact hpq)]
    rfl
  obtain ⟨ownb, hgb⟩ := owna.stored p (.int .u8 (bits .xor .u8 x y))
  rw [← List.map_set] at ownb
  have hfj := owna.frozenAt p
  obtain ⟨F9, hF9⟩ : ∃ F9, F9 = b.set p (bits .xor .u8 x y) := ⟨_, rfl⟩
  have hF : F9 = b := by
    rw [hF9, HP.out.2.2.2.2.2.1, xor_zero (by rw [← hx]; exact byt_getD HP.out.2.1.byt p)]
    exact set_self (by rw [hFl]; exact hpq) hx
  have hSn : IsSnap s f F9 := by rw [hF]; exact HP.out.2.1
  have hb9 : Byt F9 := hSn.byt
  have bb : Below w2.heap.size w2 (wa.setCell ⟨g, p, none⟩ (.int .u8 (bits .xor .u8 x y))) := ba.setCell hg _
  obtain ⟨w3, hw3⟩ : ∃ wx, wx = wa.setCell ⟨g, p, none⟩ (.int .u8 (bits .xor .u8 x y)) := ⟨_, rfl⟩
  rw [← hw3] at bb ownb
  rw [← hF9] at ownb
  have rF := Rd.of_own ownb
  replace bz := bz.below bb
  replace r1 := r1.on bb bb.size
  have B3 := B2.trans (bb.mono B2.size)
  clear bb B2
  have HA := Lib.hid (⟨hSn, hb9, rF⟩ : _ ∧ _ ∧ _)
  clear hSn hb9 hF9 owna ownb hgb hg na ba hx hFl hF
  go_wp2_with fail
  rw [← hw3]
  clear hw3 hcd hfj pl0 pl1 pl2 pl3
  refine Calls.mono (Take_any (some ⟨g, 0, none⟩) q ca F9 f w3 (HT.out.on B3) rF HA.out.2.1 hca (by omega)) ?_
  intro e w4 hh
  obtain ⟨rfl, bb⟩ := hh.yes HA.out.1
  (try clear hh)
  replace bz := bz.below bb
  replace r1 := r1.on bb bb.size
  replace rF := rF.on bb bb.size
  have B4 := B3.trans (bb.mono B3.size)
  clear bb B3
  clear rF HA
  rw [show s.v = .agg #[.int .i64 s.ix, .int .i64 s.tm, .int .i64 s.sm, .int .i64 s.lv, .bool s.fn] from rfl]
  obtain ⟨z2, hz2⟩ : ∃ z, z = w4.heap.size := ⟨_, rfl⟩
  obtain ⟨w5, hw5⟩ : ∃ x, x = w4.alloc (.cells #[.int .i64 s.ix, .int .i64 s.tm, .int .i64 s.sm, .int .i64 s.lv, .bool s.fn] 23) := ⟨_, rfl⟩
  have bz2 : BoxS w5 z2 s := by rw [hw5, hz2]; exact BoxS.new w4 s
  have bb : Below w4.heap.size w4 w5 := by rw [hw5]; exact (Below.refl _ _).alloc (Nat.le_refl _) _
  replace bz := bz.below bb
  replace r1 := r1.on bb bb.size
  have B5 := B4.trans (bb.mono B4.size)
  clear bb B4
  go_wp2_with (at_builtin; refine hold ?_)
  have hsz : z2 + 1 = w5.heap.size := by rw [hw5, hz2]; simp
  rw [← hw5, ← hz2, hsz]
  clear hsz hw5 hz2
  refine unhold (wpList_append (.tmp 63) (.tmp 64) 24 Tryd.underlying24 hi hz0 hz1 hz2 Nu.byte_cells (by decide) (own_empty w5 w5.heap.size 5 1 (Nat.le_refl _)) ((Source.rd r1).alloc _) (by unfold maxLen; omega) (by omega) (by simp) rfl rfl rfl rfl ?_)
  intro vb wb Lb
  obtain ⟨Ab, cb, rfl, hcb, ownB, bB, nB⟩ := Lb.made
  clear Lb
  obtain ⟨wl, hwl⟩ : ∃ x, x = wb.alloc (.cells #[.int .u8 y] 5) := ⟨_, rfl⟩
  have bl : Below wb.heap.size wb wl := by rw [hwl]; exact (Below.refl _ _).alloc (Nat.le_refl _) _
  have bL : Below w5.heap.size w5 wl := bB.trans (bl.mono bB.size)
  have ownL := own_keep ownB bl
  obtain ⟨zl, hzl⟩ : ∃ z, z = wb.heap.size := ⟨_, rfl⟩
  have rl : Rd wl wl.heap.size .u8 (some ⟨zl, 0, none⟩) 1 [y] := by rw [hwl, hzl]; exact Rd.made wb .u8 5 [y] rfl
  have HL := Lib.hid (⟨ownL, bL, nB, rl⟩ : _ ∧ _ ∧ _ ∧ _)
  clear ownL bL nB rl ownB bB bl
  go_wp2_with (at_builtin; refine hold ?_)
  rw [← hwl, ← hzl]
  clear hwl hzl
  refine unhold (wpList_append (.tmp 65) (.tmp 67) 24 Tryd.underlying24 hi hz0 hz1 hz2 Nu.byte_cells (by decide) HL.out.1 (Source.rd HL.out.2.2.2) (by unfold maxLen; omega) (by omega) (by have := HL.out.2.1.size; omega) rfl rfl rfl rfl ?_)
  intro vc wc Lc
  obtain ⟨Ac, cc, rfl, hcc, ownC, bb, nC⟩ := Longer.more (B := w5.heap.size) HL.out.2.1 HL.out.2.1.size HL.out.2.2.1 Lc
  have rC := own_bytes (m := 0) ownC
  clear Lc ownC nC HL
  obtain ⟨w6, hw6⟩ : ∃ x, x = wc := ⟨_, rfl⟩
  subst hw6
  replace bz := bz.below bb
  replace bz2 := bz2.below bb
  replace r1 := r1.on bb bb.size
  have B6 := B5.trans (bb.mono B5.size)
  clear bb B5
  have HC := Lib.hid (⟨rC, hcc⟩ : _ ∧ _)
  clear rC
  go_wp2_with fail
  refine Calls.mono (Take_any Ac (q + 1) cc (b ++ [y]) f w6 (HT.out.on B6) HC.out.1 (HP.out.2.1.byt.append (byt_one HP.out.2.2.2.2.1)) HC.out.2 (by omega)) ?_
  intro e w7 hh
  obtain ⟨rfl, bb⟩ := hh.no (fun t => snap_more HP.out.2.1 y)
  (try clear hh)
  replace bz := bz.below bb
  replace bz2 := bz2.below bb
  replace r1 := r1.on bb bb.size
  have B7 := B6.trans (bb.mono B6.size)
  clear bb B6
  clear HC hcc
  rw [show noneP.v = .agg #[.int .i64 0, .int .i64 0, .int .i64 0, .int .i64 0, .bool false] from rfl]
  obtain ⟨z3, hz3⟩ : ∃ z, z = w7.heap.size := ⟨_, rfl⟩
  obtain ⟨w8, hw8⟩ : ∃ x, x = w7.alloc (.cells #[.int .i64 0, .int .i64 0, .int .i64 0, .int .i64 0, .bool false] 23) := ⟨_, rfl⟩
  have bz3 : BoxS w8 z3 noneP := by rw [hw8, hz3]; exact BoxS.new w7 noneP
  have bb : Below w7.heap.size w7 w8 := by rw [hw8]; exact (Below.refl _ _).alloc (Nat.le_refl _) _
  replace bz := bz.below bb
  replace bz2 := bz2.below bb
  replace r1 := r1.on bb bb.size
  have B8 := B7.trans (bb.mono B7.size)
  clear bb B7
  have hcut := Cr.cut_first Tryd.underlying24 hi hz1 A1 q c1 q1 (by omega)
  go_wp2_with fail
  rw [← hw8, ← hz3]
  clear hw8 hz3 bz3 hcut
  have hless : ∀ t, ¬ IsSnap t f (b.take q1) := fun t => by
    have h := snap_less (t := t) HP.out.2.1
    rw [HP.out.2.2.1, ← HP.out.2.2.2.2.2.2] at h
    exact h
  refine Calls.mono (Take_any A1 q1 c1 (b.take q1) f w8 (HT.out.on B8) (r1.first hle) (HP.out.2.1.byt.take q1) (by omega) (by omega)) ?_
  intro e w9 hh
  obtain ⟨rfl, bb⟩ := hh.no hless
  (try clear hh)
  replace bz := bz.below bb
  replace bz2 := bz2.below bb
  replace r1 := r1.on bb bb.size
  have B9 := B8.trans (bb.mono B8.size)
  clear bb B8
  clear hless
  rw [show noneP.v = .agg #[.int .i64 0, .int .i64 0, .int .i64 0, .int .i64 0, .bool false] from rfl]
  obtain ⟨z4, hz4⟩ : ∃ z, z = w9.heap.size := ⟨_, rfl⟩
  obtain ⟨w10, hw10⟩ : ∃ x, x = w9.alloc (.cells #[.int .i64 0, .int .i64 0, .int .i64 0, .int .i64 0, .bool false] 23) := ⟨_, rfl⟩
  have bz4 : BoxS w10 z4 noneP := by rw [hw10, hz4]; exact BoxS.new w9 noneP
  have bb : Below w9.heap.size w9 w10 := by rw [hw10]; exact (Below.refl _ _).alloc (Nat.le_refl _) _
  replace bz := bz.below bb
  replace bz2 := bz2.below bb
  replace r1 := r1.on bb bb.size
  have B10 := B9.trans (bb.mono B9.size)
  clear bb B9
  obtain ⟨g0, g1, g2, g3, g4⟩ := bz2.cells
  rw [hw10] at g0 g1 g2 g3 g4
  obtain ⟨k0, k1, k2, k3, k4⟩ := bz.cells
  rw [hw10] at k0 k1 k2 k3 k4
  go_wp2_with fail
  rw [← hw10]
  refine Calls.mono (wakes_true w10 (HT.out.on B10)) ?_
  rintro e w11 ⟨rfl, bb⟩
  replace bz := bz.below bb
  replace bz2 := bz2.below bb
  replace r1 := r1.on bb bb.size
  have B11 := B10.trans (bb.mono B10.size)
  clear bb B10
  go_wp2_with fail
  go_ret
  exact ⟨rfl, B11⟩
set_option maxRecDepth 100000 in
set_option maxHeartbeats 4000000 in
theorem harm_turn (s : StP) (f a y : Int) (w : World) (hT : Cr.Tab w) (hy : 0 ≤ y ∧ y ≤ 255) (hs : fineB s = true) (hf : FmtP f) (h0 : ¬ y = 0) :
    Calls Tryd.prog 5 #[s.v, .int .i64 f, .int .i64 a, .int .u8 y] w fun e w' => e = .returned (.bool true) ∧ Below w.heap.size w w' := by
  have HT := Lib.hid hT
  clear hT
  obtain ⟨i0, hi, hz0, hz1, hz2⟩ := info_parts Nu.info_byte
  obtain ⟨b, hb⟩ : ∃ b, b = snapL s f := ⟨_, rfl⟩
  obtain ⟨q, hq⟩ : ∃ q, b.length = q := ⟨_, rfl⟩
  have hp : putP s f = (b, 0) := by rw [hb]; exact putP_yes hs hf
  have hS : IsSnap s f b := ⟨hs, hf, hb⟩
  have hl := snap_len hs f
  rw [← hb, hq] at hl
  have hq0 : ((q : Int) == 0) = false := by simp; omega
  obtain ⟨q1, hq1⟩ : ∃ q1, q1 = q - 1 := ⟨_, rfl⟩
  have hsub : (q : Int) - 1 = (q1 : Int) := by omega
  have hle : q1 ≤ q := by omega
  have hql : q ≤ 60 := hl.2
  have hqp : 7 ≤ q := hl.1
  obtain ⟨t, p, pl0, pl1, pl2, pl3, hpq⟩ := place_two (n := q) (by omega) (by omega) a
  have v0 : (y == 0) = false := by simp; exact h0
  have HP := Lib.hid (⟨hp, hS, hq, hs, hy, h0, hq1⟩ : _ ∧ _ ∧ _ ∧ _ ∧ _ ∧ _ ∧ _)
  clear hp hS hq hs hb hf hl hy h0 hq1
  have n2 := eql_none
  obtain ⟨z, hz⟩ : ∃ z, z = w.heap.size := ⟨_, rfl⟩
  obtain ⟨w1, hw1⟩ : ∃ x, x = w.alloc (.cells #[.int .i64 s.ix, .int .i64 s.tm, .int .i64 s.sm, .int .i64 s.lv, .bool s.fn] 23) := ⟨_, rfl⟩
  have bz : BoxS w1 z s := by rw [hw1, hz]; exact BoxS.new w s
  have bb : Below w.heap.size w w1 := by rw [hw1]; exact (Below.refl _ _).alloc (Nat.le_refl _) _
  have B1 := bb
  clear bb
  obtain ⟨k0, k1, k2, k3, k4⟩ := bz.cells
  rw [hw1, hz] at k0 k1 k2 k3 k4
  unfold StP.v
  go_enter Tryd.func5, Tryd.ntmps5
  go_wp2_with fail
  rw [← hw1, ← hz]
  clear k0 k1 k2 k3 k4
  clear hw1 hz
  refine Calls.mono (show Calls Tryd.prog 9 #[.agg #[.int .i64 s.ix, .int .i64 s.tm, .int .i64 s.sm, .int .i64 s.lv, .bool s.fn], .int .i64 f] w1 (Told w1 (putP s f)) from Put_any s f w1 (HT.out.on B1)) ?_
  intro e w2 hh
  obtain ⟨A1, c1, rfl, hc1, r1, bb⟩ := hh.yes HP.out.1 HP.out.2.2.1
  (try clear hh)
  replace bz := bz.below bb
  have B2 := B1.trans (bb.mono B1.size)
  clear bb B1
  go_wp2_with (at_builtin; refine hold ?_)
  refine unhold (wpList_append (.tmp 44) (.tmp 45) 24 Tryd.underlying24 hi hz0 hz1 hz2 Nu.byte_cells (by decide) (own_empty w2 w2.heap.size 5 1 (Nat.le_refl _)) ((Source.rd r1).alloc _) (by unfold maxLen; omega) (by omega) (by simp) rfl rfl rfl rfl ?_)
  intro va wa La
  obtain ⟨Aa, ca, rfl, hca, owna, ba, na⟩ := La.made
  clear La
  obtain ⟨g, capa, hea⟩ := own_some owna (Nat.lt_of_le_of_lt (Nat.zero_le _) hpq)
  cases hea
  have hg := na g rfl
  obtain ⟨x, hx⟩ : ∃ x, b[p]?.getD 0 = x := ⟨_, rfl⟩
  have hFl := HP.out.2.2.1
  have hcd : wa.cell? ⟨g, p, none⟩ = some (.int .u8 x) := by
    rw [owna.cellAt p (by rw [Nat.mul_one]; exact hpq), List.getElem?_map, ← hx, List.getElem?_eq_getElem (by rw [hFl]; exact hpq)]
    rfl
  obtain ⟨ownb, hgb⟩ := owna.stored p (.int .u8 (bits .xor .u8 x y))
  rw [← List.map_set] at ownb
  have hfj := owna.frozenAt p
  obtain ⟨F9, hF9⟩ : ∃ F9, F9 = b.set p (bits .xor .u8 x y) := ⟨_, rfl⟩
  have hSn : ∀ t, ¬ IsSnap t f F9 := fun t => by
    have h := snap_harm (t := t) HP.out.2.1 (k := p) (by rw [hFl]; exact hpq) HP.out.2.2.2.2.1 HP.out.2.2.2.2.2.1
    rw [hx] at h
    rw [hF9]
    exact h
  have hb9 : Byt F9 := by rw [hF9]; exact byt_set HP.out.2.1.byt p (xor_byte (by rw [← hx]; exact byt_getD HP.out.2.1.byt p) HP.out.2.2.2.2.1)
  have bb : Below w2.heap.size w2 (wa.setCell ⟨g, p, none⟩ (.int .u8 (bits .xor .u8 x y))) := ba.setCell hg _
  obtain ⟨w3, hw3⟩ : ∃ wx, wx = wa.setCell ⟨g, p, none⟩ (.int .u8 (bits .xor .u8 x y)) := ⟨_, rfl⟩
  rw [← hw3] at bb ownb
  rw [← hF9] at ownb
  have rF := Rd.of_own ownb
  replace bz := bz.below bb
  replace r1 := r1.on bb bb.size
  have B3 := B2.trans (bb.mono B2.size)
  clear bb B2
  have HA := Lib.hid (⟨hSn, hb9, rF⟩ : _ ∧ _ ∧ _)
  clear hSn hb9 hF9 owna ownb hgb hg na ba hx hFl
  go_wp2_with fail
  rw [← hw3]
  clear hw3 hcd hfj pl0 pl1 pl2 pl3
  refine Calls.mono (Take_any (some ⟨g, 0, none⟩) q ca F9 f w3 (HT.out.on B3) rF HA.out.2.1 hca (by omega)) ?_
  intro e w4 hh
  obtain ⟨rfl, bb⟩ := hh.no HA.out.1
  (try clear hh)
  replace bz := bz.below bb
  replace r1 := r1.on bb bb.size
  replace rF := rF.on bb bb.size
  have B4 := B3.trans (bb.mono B3.size)
  clear bb B3
  clear rF HA
  rw [show noneP.v = .agg #[.int .i64 0, .int .i64 0, .int .i64 0, .int .i64 0, .bool false] from rfl]
  obtain ⟨z2, hz2⟩ : ∃ z, z = w4.heap.size := ⟨_, rfl⟩
  obtain ⟨w5, hw5⟩ : ∃ x, x = w4.alloc (.cells #[.int .i64 0, .int .i64 0, .int .i64 0, .int .i64 0, .bool false] 23) := ⟨_, rfl⟩
  have bz2 : BoxS w5 z2 noneP := by rw [hw5, hz2]; exact BoxS.new w4 noneP
  have bb : Below w4.heap.size w4 w5 := by rw [hw5]; exact (Below.refl _ _).alloc (Nat.le_refl _) _
  replace bz := bz.below bb
  replace r1 := r1.on bb bb.size
  have B5 := B4.trans (bb.mono B4.size)
  clear bb B4
  go_wp2_with (at_builtin; refine hold ?_)
  have hsz : z2 + 1 = w5.heap.size := by rw [hw5, hz2]; simp
  rw [← hw5, ← hz2, hsz]
  clear hsz hw5 hz2
  refine unhold (wpList_append (.tmp 63) (.tmp 64) 24 Tryd.underlying24 hi hz0 hz1 hz2 Nu.byte_cells (by decide) (own_empty w5 w5.heap.size 5 1 (Nat.le_refl _)) ((Source.rd r1).alloc _) (by unfold maxLen; omega) (by omega) (by simp) rfl rfl rfl rfl ?_)
  intro vb wb Lb
  obtain ⟨Ab, cb, rfl, hcb, ownB, bB, nB⟩ := Lb.made
  clear Lb
  obtain ⟨wl, hwl⟩ : ∃ x, x = wb.alloc (.cells #[.int .u8 y] 5) := ⟨_, rfl⟩
  have bl : Below wb.heap.size wb wl := by rw [hwl]; exact (Below.refl _ _).alloc (Nat.le_refl _) _
  have bL : Below w5.heap.size w5 wl := bB.trans (bl.mono bB.size)
  have ownL := own_keep ownB bl
  obtain ⟨zl, hzl⟩ : ∃ z, z = wb.heap.size := ⟨_, rfl⟩
  have rl : Rd wl wl.heap.size .u8 (some ⟨zl, 0, none⟩) 1 [y] := by rw [hwl, hzl]; exact Rd.made wb .u8 5 [y] rfl
  have HL := Lib.hid (⟨ownL, bL, nB, rl⟩ : _ ∧ _ ∧ _ ∧ _)
  clear ownL bL nB rl ownB bB bl
  go_wp2_with (at_builtin; refine hold ?_)
  rw [← hwl, ← hzl]
  clear hwl hzl
  refine unhold (wpList_append (.tmp 65) (.tmp 67) 24 Tryd.underlying24 hi hz0 hz1 hz2 Nu.byte_cells (by decide) HL.out.1 (Source.rd HL.out.2.2.2) (by unfold maxLen; omega) (by omega) (by have := HL.out.2.1.size; omega) rfl rfl rfl rfl ?_)
  intro vc wc Lc
  obtain ⟨Ac, cc, rfl, hcc, ownC, bb, nC⟩ := Longer.more (B := w5.heap.size) HL.out.2.1 HL.out.2.1.size HL.out.2.2.1 Lc
  have rC := own_bytes (m := 0) ownC
  clear Lc ownC nC HL
  obtain ⟨w6, hw6⟩ : ∃ x, x = wc := ⟨_, rfl⟩
  subst hw6
  replace bz := bz.below bb
  replace bz2 := bz2.below bb
  replace r1 := r1.on bb bb.size
  have B6 := B5.trans (bb.mono B5.size)
  clear bb B5
  have HC := Lib.hid (⟨rC, hcc⟩ : _ ∧ _)
  clear rC
  go_wp2_with fail
  refine Calls.mono (Take_any Ac (q + 1) cc (b ++ [y]) f w6 (HT.out.on B6) HC.out.1 (HP.out.2.1.byt.append (byt_one HP.out.2.2.2.2.1)) HC.out.2 (by omega)) ?_
  intro e w7 hh
  obtain ⟨rfl, bb⟩ := hh.no (fun t => snap_more HP.out.2.1 y)
  (try clear hh)
  replace bz := bz.below bb
  replace bz2 := bz2.below bb
  replace r1 := r1.on bb bb.size
  have B7 := B6.trans (bb.mono B6.size)
  clear bb B6
  clear HC hcc
  rw [show noneP.v = .agg #[.int .i64 0, .int .i64 0, .int .i64 0, .int .i64 0, .bool false] from rfl]
  obtain ⟨z3, hz3⟩ : ∃ z, z = w7.heap.size := ⟨_, rfl⟩
  obtain ⟨w8, hw8⟩ : ∃ x, x = w7.alloc (.cells #[.int .i64 0, .int .i64 0, .int .i64 0, .int .i64 0, .bool false] 23) := ⟨_, rfl⟩
  have bz3 : BoxS w8 z3 noneP := by rw [hw8, hz3]; exact BoxS.new w7 noneP
  have bb : Below w7.heap.size w7 w8 := by rw [hw8]; exact (Below.refl _ _).alloc (Nat.le_refl _) _
  replace bz := bz.below bb
  replace bz2 := bz2.below bb
  replace r1 := r1.on bb bb.size
  have B8 := B7.trans (bb.mono B7.size)
  clear bb B7
  have hcut := Cr.cut_first Tryd.underlying24 hi hz1 A1 q c1 q1 (by omega)
  go_wp2_with fail
  rw [← hw8, ← hz3]
  clear hw8 hz3 bz3 hcut
  have hless : ∀ t, ¬ IsSnap t f (b.take q1) := fun t => by
    have h := snap_less (t := t) HP.out.2.1
    rw [HP.out.2.2.1, ← HP.out.2.2.2.2.2.2] at h
    exact h
  refine Calls.mono (Take_any A1 q1 c1 (b.take q1) f w8 (HT.out.on B8) (r1.first hle) (HP.out.2.1.byt.take q1) (by omega) (by omega)) ?_
  intro e w9 hh
  obtain ⟨rfl, bb⟩ := hh.no hless
  (try clear hh)
  replace bz := bz.below bb
  replace bz2 := bz2.below bb
  replace r1 := r1.on bb bb.size
  have B9 := B8.trans (bb.mono B8.size)
  clear bb B8
  clear hless
  rw [show noneP.v = .agg #[.int .i64 0, .int .i64 0, .int .i64 0, .int .i64 0, .bool false] from rfl]
  obtain ⟨z4, hz4⟩ : ∃ z, z = w9.heap.size := ⟨_, rfl⟩
  obtain ⟨w10, hw10⟩ : ∃ x, x = w9.alloc (.cells #[.int .i64 0, .int .i64 0, .int .i64 0, .int .i64 0, .bool false] 23) := ⟨_, rfl⟩
  have bz4 : BoxS w10 z4 noneP := by rw [hw10, hz4]; exact BoxS.new w9 noneP
  have bb : Below w9.heap.size w9 w10 := by rw [hw10]; exact (Below.refl _ _).alloc (Nat.le_refl _) _
  replace bz := bz.below bb
  replace bz2 := bz2.below bb
  replace r1 := r1.on bb bb.size
  have B10 := B9.trans (bb.mono B9.size)
  clear bb B9
  obtain ⟨g0, g1, g2, g3, g4⟩ := bz2.cells
  dsimp only [noneP] at g0 g1 g2 g3 g4
  rw [hw10] at g0 g1 g2 g3 g4
  go_wp2_with fail
  rw [← hw10]
  refine Calls.mono (wakes_true w10 (HT.out.on B10)) ?_
  rintro e w11 ⟨rfl, bb⟩
  replace bz := bz.below bb
  replace bz2 := bz2.below bb
  replace r1 := r1.on bb bb.size
  have B11 := B10.trans (bb.mono B10.size)
  clear bb B10
  go_wp2_with fail
  go_ret
  exact ⟨rfl, B11⟩
theorem harm_all (s : StP) (f a y : Int) (w : World) (hT : Cr.Tab w) (hy : 0 ≤ y ∧ y ≤ 255) :
    Calls Tryd.prog 5 #[s.v, .int .i64 f, .int .i64 a, .int .u8 y] w fun e w' => e = .returned (.bool true) ∧ Below w.heap.size w w' := by
  by_cases hs : fineB s = true ∧ FmtP f
  · by_cases h0 : y = 0
    · exact harm_zero s f a y w hT hy hs.1 hs.2 h0
    · exact harm_turn s f a y w hT hy hs.1 hs.2 h0
  · exact harm_no s f a y w hT hy hs

end Go.Proofs.YtdggacabjlengaaDoor
