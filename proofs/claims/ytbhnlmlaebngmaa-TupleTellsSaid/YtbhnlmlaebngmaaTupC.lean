/-
  The document's Append, Cut (of tuples): their contracts; slices of entries cut.
-/
import Derived.Test.YtbhnlmlaebngmaaTupO
namespace Go.Proofs.Ytbhnlmlaebngmaa
open Go.RowKit
set_option linter.unusedVariables false
set_option linter.unusedSimpArgs false

theorem cut_firstE {P : Program} {t e : TypeId} {i : TypeInfo} (ht : P.underlying t = some (.slice e)) (hi : P.info? e = some i) (A : Option Addr) (n c k : Nat) (hk : k ≤ c) (W : World) :
    (Instr.slice t (.slice A n c) none (some (.int .i64 (k : Int))) none).run P W = .ok (.slice A k c) W := by
  have he : P.elem t = e := by simp [Program.elem, ht]
  have hu : P.underlying t = some (.slice (P.elem t)) := by rw [he]; exact ht
  rw [run_slice_h W t A n c hu .i64 (k : Int) (by omega) (by omega), he]
  simp [sizeOf, run_typeInfo, hi, sliced, go_sem]
theorem cut_restE {P : Program} {t e : TypeId} {i : TypeInfo} (ht : P.underlying t = some (.slice e)) (hi : P.info? e = some i) (h1 : i.size = 3) (A : Option Addr) (n c k : Nat) (hk : k ≤ n) (hnc : n ≤ c) :
    ∃ A', (∀ W : World, (Instr.slice t (.slice A n c) (some (.int .i64 (k : Int))) none none).run P W = .ok (.slice A' (n - k) (c - k)) W) ∧ ∀ {w : World} {B : Nat} {l : List EnP}, Es w B A n l → Es w B A' (n - k) (l.drop k) := by
  have he : P.elem t = e := by simp [Program.elem, ht]
  have hu : P.underlying t = some (.slice (P.elem t)) := by rw [he]; exact ht
  refine ⟨if c = k then A else A.map (·.add (k * 3)), fun W => ?_, fun {w B l} h => ?_⟩
  · rw [run_slice_l W t A n c hu .i64 (k : Int) (by omega) (by omega), he]
    simp [sizeOf, run_typeInfo, hi, h1, sliced, go_sem]
  · by_cases hc : c = k
    · have hnk : n = k := by omega
      have hd : l.drop k = [] := List.drop_of_length_le (by have := Es.len h; omega)
      rw [hd, show n - k = 0 by omega]
      exact Row.nil
    · rw [if_neg hc]
      exact Row.rest h hk
theorem flat_take : ∀ (l : List EnP) (k : Nat), (l.take k).flatMap EnP.cs = (l.flatMap EnP.cs).take (k * 3)
  | [], k => by simp
  | e :: l, 0 => by simp
  | e :: l, k + 1 => by
    rw [List.take_succ_cons, List.flatMap_cons, List.flatMap_cons, flat_take l k, show (k + 1) * 3 = k * 3 + 1 + 1 + 1 by omega]
    simp [EnP.cs, List.take_succ_cons]
theorem own_first {w : World} {B n c k : Nat} {A : Option Addr} {l : List EnP} (h : OwnE w B (.slice A n c) n l) (hk : k ≤ n) : OwnE w B (.slice A k c) k (l.take k) := by
  have hl : l.length = n := own_len h
  refine ⟨?_, ?_⟩
  · rw [flat_length EnP.cs EnP.len, List.length_take, Nat.min_eq_left (by omega)]
  · rcases h.2 with ⟨e, hn⟩ | ⟨g, cap, cur, e1, hbg, hh, hnc, hcm, hcs, htk⟩
    · obtain ⟨rfl, rfl, rfl⟩ : A = none ∧ n = 0 ∧ c = 0 := by simpa using e
      obtain rfl : k = 0 := by omega
      exact .inl ⟨rfl, rfl⟩
    · obtain ⟨rfl, rfl⟩ : A = some ⟨g, 0, none⟩ ∧ c = cap := by simpa using e1
      refine .inr ⟨g, c, cur, rfl, hbg, hh, by omega, hcm, hcs, ?_⟩
      rw [flat_take, ← htk, List.take_take, Nat.min_eq_left (by omega)]
set_option maxRecDepth 100000 in
set_option maxHeartbeats 8000000 in
theorem rappendT_any (t : TupP) (A : Option Addr) (n c : Nat) (A' : Option Addr) (m c' : Nat) (l : List EnP) (w : World) (hS : Es w w.heap.size A n t.lg) (hn : n ≤ 100000) (hL : Es w w.heap.size A' m l) (hm : m ≤ 100000) :
    Calls Try.prog 11 #[tupV t (.slice A n c), .slice A' m c'] w (OutT (AppendIs t l) w.heap.size w) := by
  have HS0 := Lib.hid hS
  have Hl := Lib.hid hS.len
  obtain ⟨z1, hz1⟩ : ∃ z, z = w.heap.size := ⟨_, rfl⟩
  obtain ⟨w1, hw1⟩ : ∃ x, x = w.alloc (.cells #[.int .i64 t.sn.ix, .int .i64 t.sn.tm, .int .i64 t.sn.sm, .int .i64 t.sn.lv, .bool t.sn.fn, .slice A n c, .int .i64 t.tm, .int .i64 t.vt] 26) := ⟨_, rfl⟩
  have bb : Below w.heap.size w w1 := by rw [hw1]; exact below_al (below_d0 _) _
  have bz : BoxU w1 z1 t (.slice A n c) := by rw [hw1, hz1]; exact BoxU.new w t _
  replace hS := hS.on bb bb.size
  have B1 := bb
  clear bb
  obtain ⟨z2, hz2⟩ : ∃ z, z = w1.heap.size := ⟨_, rfl⟩
  obtain ⟨w2, hw2⟩ : ∃ x, x = w1.alloc (.cells #[.int .i64 0, .int .i64 0, .int .i64 0, .int .i64 0, .bool false, .slice none 0 0, .int .i64 0, .int .i64 0] 26) := ⟨_, rfl⟩
  have bb : Below w1.heap.size w1 w2 := by rw [hw2]; exact below_al (below_d0 _) _
  have br : BoxU w2 z2 noneT (.slice none 0 0) := by rw [hw2, hz2]; exact BoxU.new w1 noneT _
  replace bz := bz.below bb
  replace hS := hS.on bb bb.size
  have B2 := B1.trans (bb.mono B1.size)
  clear bb B1
  have hp2 : z1 + 1 = z2 := by rw [hz2, hw1, hz1]; simp
  have lz2 : w.heap.size ≤ z2 := by omega
  have ne12 : z1 ≠ z2 := by omega
  have HE := Lib.hid (⟨hw1, hw2, hz1, hp2⟩ : _ ∧ _ ∧ _ ∧ _)
  have HLZ := Lib.hid lz2
  clear hw1 hz1 hw2 hz2 hp2 lz2
  have HL0 := Lib.hid (⟨hL, hm⟩ : _ ∧ _)
  obtain ⟨i0, hi, hz0, hz1, hz2⟩ := info_partsV info_entry
  unfold tupV
  go_enter Try.func11, Try.ntmps11
  obtain ⟨k0, k1, k2, k3, k4, k5, k6, k7⟩ := bz.cells
  go_wp2_with fail
  clear k0 k1 k2 k3 k4 k5 k6 k7
  rw [← HE.out.1, ← HE.out.2.1, ← HE.out.2.2.1]
  (try rw [HE.out.2.2.2])
  clear HE
  have B2x := B2
  refine Calls.mono (show Calls Try.prog 41 #[.agg #[.int .i64 t.sn.ix, .int .i64 t.sn.tm, .int .i64 t.sn.sm, .int .i64 t.sn.lv, .bool t.sn.fn, .slice A n c, .int .i64 t.tm, .int .i64 t.vt]] w2 (fun e w' => (∃ A' c', e = .returned (tupV t (.slice A' n c')) ∧ n ≤ c' ∧ OwnE w' w2.heap.size (.slice A' n c') n t.lg) ∧ Below w2.heap.size w2 w') from rownT_any t A n c w2 hS (by omega)) ?_
  intro e w3 hh
  obtain ⟨⟨A5, c5, rfl, hc5, own⟩, bb⟩ := hh
  (try clear hh)
  replace bz := bz.below bb
  replace br := br.below bb
  replace hS := hS.on bb bb.size
  have B3 := B2.trans (bb.mono B2.size)
  clear bb B2
  skip
  have B3x := B3
  replace own := own_low own B2x.size
  clear B2x
  have lbz := bz.lt
  have lbr := br.lt
  obtain ⟨z4, hz4⟩ : ∃ z, z = w3.heap.size := ⟨_, rfl⟩
  obtain ⟨w4, hw4⟩ : ∃ x, x = w3.alloc (.cells #[.int .i64 t.sn.ix, .int .i64 t.sn.tm, .int .i64 t.sn.sm, .int .i64 t.sn.lv, .bool t.sn.fn, .slice A5 n c5, .int .i64 t.tm, .int .i64 t.vt] 26) := ⟨_, rfl⟩
  have bb : Below w3.heap.size w3 w4 := by rw [hw4]; exact below_al (below_d0 _) _
  have bo : BoxU w4 z4 t (.slice A5 n c5) := by rw [hw4, hz4]; exact BoxU.new w3 t _
  replace own := own_keep own bb
  replace bz := bz.below bb
  replace br := br.below bb
  replace hS := hS.on bb bb.size
  have B4 := B3.trans (bb.mono B3.size)
  clear bb B3
  have hzo : w.heap.size ≤ z4 := by rw [hz4]; exact B3x.size
  have nbz : z1 ≠ z4 := by omega
  have nbr : z2 ≠ z4 := by omega
  have HE2 := Lib.hid (⟨hw4, hz4⟩ : _ ∧ _)
  clear hw4 hz4 lbz lbr
  unfold tupV
  go_upto_region 2 with fail
  rw [← HE2.out.1, ← HE2.out.2]
  clear HE2
  have src := Row.source (by omega) EnP.len EnP.one (Row.on HL0.out.1 B4 B4.size : Es w4 w4.heap.size A' m l)
  obtain ⟨j0, j1, j2, j3, j4, j5, j6, j7⟩ := bo.cells
  have f5 := bo.frozen 5
  go_wp2_with (at_builtin; refine hold ?_)
  refine unhold (wpList_append (.tmp 10) (.tmp 11) 24 Try.underlying24 hi hz0 hz1 hz2 entry_cells (by omega) own src (by have := HL0.out.2; unfold maxLen; omega) (by have := HL0.out.2; omega) B4.size rfl rfl rfl rfl ?_)
  intro v1 w5 L
  have own1 : OwnE w5 w.heap.size v1 (n + m) (t.lg ++ l) := by
    unfold OwnE
    rw [List.flatMap_append]
    exact L.1
  replace bz : BoxU w5 z1 t (.slice A n c) := (L.2.1.block z1 bz.lt (fun e => own_boxU bz own z1 e.symm rfl)).trans bz
  replace br : BoxU w5 z2 noneT (.slice none 0 0) := (L.2.1.block z2 br.lt (fun e => own_boxU br own z2 e.symm rfl)).trans br
  have bo1 : BoxU w5 z4 t (.slice A5 n c5) := (L.2.1.block z4 bo.lt (fun e => own_boxU bo own z4 e.symm rfl)).trans bo
  have B5 : Below w.heap.size w w5 := L.below B4 B4.size (fun g hg => (own.lt g hg).1)
  obtain ⟨A6, c6, rfl, hnc6⟩ := own_slice own1
  clear own L src j0 j1 j2 j3 j4 j5 j6 j7 f5 bo hS B4 hc5 hi hz0 hz1 hz2
  obtain ⟨j0, j1, j2, j3, j4, j5, j6, j7⟩ := bo1.cells
  have f5 := bo1.frozen 5
  go_upto_region 3 with fail
  clear j0 j1 j2 j3 j4 j5 j6 j7 f5
  obtain ⟨w6, hw6⟩ : ∃ x, x = w5.setCell ⟨z4, 5, none⟩ (.slice A6 (n + m) c6) := ⟨_, rfl⟩
  have own : OwnE w6 w.heap.size (.slice A6 (n + m) c6) (n + m) (t.lg ++ l) := by rw [hw6]; exact set_ownU bo1 own1
  replace bz : BoxU w6 z1 t (.slice A n c) := by rw [hw6]; exact set_boxU bz nbz
  replace br : BoxU w6 z2 noneT (.slice none 0 0) := by rw [hw6]; exact set_boxU br nbr
  have bo : BoxU w6 z4 (appendT t l) (.slice A6 (n + m) c6) := by rw [hw6]; exact put5U bo1 (t.lg ++ l) _
  have B6 : Below w.heap.size w w6 := by rw [hw6]; exact B5.setCell (p := ⟨z4, 5, none⟩) hzo _
  have hS : Es w6 w6.heap.size A n t.lg := Row.on HS0.out B6 B6.size
  rw [← hw6]
  clear hw6 B5 own1 bo1
  obtain ⟨k0, k1, k2, k3, k4, k5, k6, k7⟩ := bz.cells
  obtain ⟨j0, j1, j2, j3, j4, j5, j6, j7⟩ := bo.cells
  go_wp2_with fail
  clear k0 k1 k2 k3 k4 k5 k6 k7
  clear j0 j1 j2 j3 j4 j5 j6 j7
  refine Calls.mono (show Calls Try.prog 42 #[.agg #[.int .i64 t.sn.ix, .int .i64 t.sn.tm, .int .i64 t.sn.sm, .int .i64 t.sn.lv, .bool t.sn.fn, .slice A n c, .int .i64 t.tm, .int .i64 t.vt], .agg #[.int .i64 t.sn.ix, .int .i64 t.sn.tm, .int .i64 t.sn.sm, .int .i64 t.sn.lv, .bool t.sn.fn, .slice A6 (n + m) c6, .int .i64 t.tm, .int .i64 t.vt], .bool true] w6 (OutT (ToldIs t (appendT t l) (true = true)) w.heap.size w6) from rtoldT_any t (appendT t l) A A6 n c (n + m) c6 w.heap.size true w6 hS own (by omega) (by have := HL0.out.2; omega) hnc6 B6.size) ?_
  intro e w7 hh
  obtain ⟨⟨o, er, A9, n9, c9, rfl, hR, hnc9, own9⟩, bb⟩ := hh
  (try clear hh)
  replace bz := bz.below bb
  replace br := br.below bb
  replace bo := bo.below bb
  replace hS := hS.on bb bb.size
  have B7 := B6.trans (bb.mono B6.size)
  clear bb B6
  unfold tupV
  have HR := Lib.hid hR
  clear hR
  obtain ⟨g0, g1, g2, g3, g4, g5, g6, g7⟩ := br.cells
  have f0 := br.frozen 0
  have f1 := br.frozen 1
  have f2 := br.frozen 2
  have f3 := br.frozen 3
  have f4 := br.frozen 4
  have f5 := br.frozen 5
  have f6 := br.frozen 6
  have f7 := br.frozen 7
  go_wp2_with fail
  obtain ⟨W', hW'⟩ : ∃ W', W' = putU w7 z2 o (.slice A9 n9 c9) := ⟨_, rfl⟩
  have b9 := putU_box br o (.slice A9 n9 c9)
  have B9 := putU_below HLZ.out o (.slice A9 n9 c9) B7
  rw [← hW'] at b9 B9
  have e9 : W' = ((((((((w7.setCell ⟨z2, 0, none⟩ (.int .i64 o.sn.ix)).setCell ⟨z2, 1, none⟩ (.int .i64 o.sn.tm)).setCell ⟨z2, 2, none⟩ (.int .i64 o.sn.sm)).setCell ⟨z2, 3, none⟩ (.int .i64 o.sn.lv)).setCell ⟨z2, 4, none⟩ (.bool o.sn.fn)).setCell ⟨z2, 5, none⟩ (.slice A9 n9 c9)).setCell ⟨z2, 6, none⟩ (.int .i64 o.tm)).setCell ⟨z2, 7, none⟩ (.int .i64 o.vt)) := hW'
  have own10 : OwnE W' w.heap.size (.slice A9 n9 c9) n9 o.lg := by rw [hW']; exact putU_own br own9
  rw [← e9]
  clear e9 hW' g0 g1 g2 g3 g4 g5 g6 g7 f0 f1 f2 f3 f4 f5 f6 f7
  obtain ⟨g0, g1, g2, g3, g4, g5, g6, g7⟩ := b9.cells
  exact bodyPost_ret (v := .tuple #[tupV o (.slice A9 n9 c9), .int .i64 er]) (by unfold tupV; simp [results, Try.results11, go_sem, g0, g1, g2, g3, g4, g5, g6, g7]) rfl ⟨⟨o, er, A9, n9, c9, rfl, ToldIs.iff HR.out (by simp), hnc9, own10⟩, B9⟩
set_option maxRecDepth 100000 in
set_option maxHeartbeats 8000000 in
theorem rcut_0 (t : TupP) (A : Option Addr) (n c : Nat) (i : Int) (w : World) (hS : Es w w.heap.size A n t.lg) (hn : n ≤ 100000) (hnc : n ≤ c) (hx : -1099511627776 ≤ t.sn.ix ∧ t.sn.ix ≤ 1099511627776) (hi : -1099511627776 ≤ i ∧ i ≤ 1099511627776) (c1 : i ≤ t.sn.ix) (hno : ∀ {o er}, ToldIs t t (false = true) o er → ToldIs t (cutT t i) (false = true) o er) :
    Calls Try.prog 13 #[tupV t (.slice A n c), .int .i64 i] w (OutT (CutIs t i) w.heap.size w) := by
  have hlst : IntKind.i64.wrap (lastT t + 1) = lastT t + 1 ∧ wrap64 (lastT t + 1) = lastT t + 1 := by have := hS.len; unfold lastT; exact ⟨by rw [IntKind.wrap_i64]; omega, by unfold wrap64; omega⟩
  obtain ⟨r0, r1⟩ := hlst
  have q0 : decide (i ≤ t.sn.ix) = true := decide_eq_true c1
  have HC := Lib.hid (show (false = true) ↔ (t.sn.ix < i ∧ i ≤ lastT t + 1) by simp; omega)
  have HB := Lib.hid (⟨hx, hi⟩ : _ ∧ _)
  clear hx hi c1
  have HS0 := Lib.hid hS
  have Hl := Lib.hid hS.len
  obtain ⟨z1, hz1⟩ : ∃ z, z = w.heap.size := ⟨_, rfl⟩
  obtain ⟨w1, hw1⟩ : ∃ x, x = w.alloc (.cells #[.int .i64 t.sn.ix, .int .i64 t.sn.tm, .int .i64 t.sn.sm, .int .i64 t.sn.lv, .bool t.sn.fn, .slice A n c, .int .i64 t.tm, .int .i64 t.vt] 26) := ⟨_, rfl⟩
  have bb : Below w.heap.size w w1 := by rw [hw1]; exact below_al (below_d0 _) _
  have bz : BoxU w1 z1 t (.slice A n c) := by rw [hw1, hz1]; exact BoxU.new w t _
  replace hS := hS.on bb bb.size
  have B1 := bb
  clear bb
  obtain ⟨z2, hz2⟩ : ∃ z, z = w1.heap.size := ⟨_, rfl⟩
  obtain ⟨w2, hw2⟩ : ∃ x, x = w1.alloc (.cells #[.int .i64 0, .int .i64 0, .int .i64 0, .int .i64 0, .bool false, .slice none 0 0, .int .i64 0, .int .i64 0] 26) := ⟨_, rfl⟩
  have bb : Below w1.heap.size w1 w2 := by rw [hw2]; exact below_al (below_d0 _) _
  have br : BoxU w2 z2 noneT (.slice none 0 0) := by rw [hw2, hz2]; exact BoxU.new w1 noneT _
  replace bz := bz.below bb
  replace hS := hS.on bb bb.size
  have B2 := B1.trans (bb.mono B1.size)
  clear bb B1
  have hp2 : z1 + 1 = z2 := by rw [hz2, hw1, hz1]; simp
  have lz2 : w.heap.size ≤ z2 := by omega
  have ne12 : z1 ≠ z2 := by omega
  have HE := Lib.hid (⟨hw1, hw2, hz1, hp2⟩ : _ ∧ _ ∧ _ ∧ _)
  have HLZ := Lib.hid lz2
  clear hw1 hz1 hw2 hz2 hp2 lz2
  unfold tupV
  go_enter Try.func13, Try.ntmps13
  obtain ⟨k0, k1, k2, k3, k4, k5, k6, k7⟩ := bz.cells
  go_wp2_with fail
  clear k0 k1 k2 k3 k4 k5 k6 k7
  rw [← HE.out.1, ← HE.out.2.1, ← HE.out.2.2.1]
  (try rw [HE.out.2.2.2])
  clear HE
  refine Calls.mono (show Calls Try.prog 42 #[.agg #[.int .i64 t.sn.ix, .int .i64 t.sn.tm, .int .i64 t.sn.sm, .int .i64 t.sn.lv, .bool t.sn.fn, .slice A n c, .int .i64 t.tm, .int .i64 t.vt], .agg #[.int .i64 t.sn.ix, .int .i64 t.sn.tm, .int .i64 t.sn.sm, .int .i64 t.sn.lv, .bool t.sn.fn, .slice A n c, .int .i64 t.tm, .int .i64 t.vt], .bool false] w2 (OutT (ToldIs t t (false = true)) w.heap.size w2) from told_no0 t t A A n c n c w.heap.size false w2 hS (by omega) (by omega) hnc B2.size rfl) ?_
  intro e w3 hh
  obtain ⟨⟨o, er, A9, n9, c9, rfl, hR, hnc9, own9⟩, bb⟩ := hh
  (try clear hh)
  replace bz := bz.below bb
  replace br := br.below bb
  replace hS := hS.on bb bb.size
  have B3 := B2.trans (bb.mono B2.size)
  clear bb B2
  unfold tupV
  have HR := Lib.hid hR
  clear hR
  obtain ⟨g0, g1, g2, g3, g4, g5, g6, g7⟩ := br.cells
  have f0 := br.frozen 0
  have f1 := br.frozen 1
  have f2 := br.frozen 2
  have f3 := br.frozen 3
  have f4 := br.frozen 4
  have f5 := br.frozen 5
  have f6 := br.frozen 6
  have f7 := br.frozen 7
  go_wp2_with fail
  obtain ⟨W', hW'⟩ : ∃ W', W' = putU w3 z2 o (.slice A9 n9 c9) := ⟨_, rfl⟩
  have b9 := putU_box br o (.slice A9 n9 c9)
  have B9 := putU_below HLZ.out o (.slice A9 n9 c9) B3
  rw [← hW'] at b9 B9
  have e9 : W' = ((((((((w3.setCell ⟨z2, 0, none⟩ (.int .i64 o.sn.ix)).setCell ⟨z2, 1, none⟩ (.int .i64 o.sn.tm)).setCell ⟨z2, 2, none⟩ (.int .i64 o.sn.sm)).setCell ⟨z2, 3, none⟩ (.int .i64 o.sn.lv)).setCell ⟨z2, 4, none⟩ (.bool o.sn.fn)).setCell ⟨z2, 5, none⟩ (.slice A9 n9 c9)).setCell ⟨z2, 6, none⟩ (.int .i64 o.tm)).setCell ⟨z2, 7, none⟩ (.int .i64 o.vt)) := hW'
  have own10 : OwnE W' w.heap.size (.slice A9 n9 c9) n9 o.lg := by rw [hW']; exact putU_own br own9
  rw [← e9]
  clear e9 hW' g0 g1 g2 g3 g4 g5 g6 g7 f0 f1 f2 f3 f4 f5 f6 f7
  obtain ⟨g0, g1, g2, g3, g4, g5, g6, g7⟩ := b9.cells
  exact bodyPost_ret (v := .tuple #[tupV o (.slice A9 n9 c9), .int .i64 er]) (by unfold tupV; simp [results, Try.results13, go_sem, g0, g1, g2, g3, g4, g5, g6, g7]) rfl ⟨⟨o, er, A9, n9, c9, rfl, ToldIs.iff (hno HR.out) HC.out, hnc9, own10⟩, B9⟩
set_option maxRecDepth 100000 in
set_option maxHeartbeats 8000000 in
theorem rcut_1 (t : TupP) (A : Option Addr) (n c : Nat) (i : Int) (w : World) (hS : Es w w.heap.size A n t.lg) (hn : n ≤ 100000) (hnc : n ≤ c) (hx : -1099511627776 ≤ t.sn.ix ∧ t.sn.ix ≤ 1099511627776) (hi : -1099511627776 ≤ i ∧ i ≤ 1099511627776) (c1 : ¬ i ≤ t.sn.ix) (c2 : lastT t + 1 < i) (hno : ∀ {o er}, ToldIs t t (false = true) o er → ToldIs t (cutT t i) (false = true) o er) :
    Calls Try.prog 13 #[tupV t (.slice A n c), .int .i64 i] w (OutT (CutIs t i) w.heap.size w) := by
  have hlst : IntKind.i64.wrap (lastT t + 1) = lastT t + 1 ∧ wrap64 (lastT t + 1) = lastT t + 1 := by have := hS.len; unfold lastT; exact ⟨by rw [IntKind.wrap_i64]; omega, by unfold wrap64; omega⟩
  obtain ⟨r0, r1⟩ := hlst
  have q0 : decide (i ≤ t.sn.ix) = false := decide_eq_false c1
  have q1 : decide (lastT t + 1 < i) = true := decide_eq_true c2
  have HC := Lib.hid (show (false = true) ↔ (t.sn.ix < i ∧ i ≤ lastT t + 1) by simp; omega)
  have HB := Lib.hid (⟨hx, hi⟩ : _ ∧ _)
  clear hx hi c1 c2
  have HS0 := Lib.hid hS
  have Hl := Lib.hid hS.len
  obtain ⟨z1, hz1⟩ : ∃ z, z = w.heap.size := ⟨_, rfl⟩
  obtain ⟨w1, hw1⟩ : ∃ x, x = w.alloc (.cells #[.int .i64 t.sn.ix, .int .i64 t.sn.tm, .int .i64 t.sn.sm, .int .i64 t.sn.lv, .bool t.sn.fn, .slice A n c, .int .i64 t.tm, .int .i64 t.vt] 26) := ⟨_, rfl⟩
  have bb : Below w.heap.size w w1 := by rw [hw1]; exact below_al (below_d0 _) _
  have bz : BoxU w1 z1 t (.slice A n c) := by rw [hw1, hz1]; exact BoxU.new w t _
  replace hS := hS.on bb bb.size
  have B1 := bb
  clear bb
  obtain ⟨z2, hz2⟩ : ∃ z, z = w1.heap.size := ⟨_, rfl⟩
  obtain ⟨w2, hw2⟩ : ∃ x, x = w1.alloc (.cells #[.int .i64 0, .int .i64 0, .int .i64 0, .int .i64 0, .bool false, .slice none 0 0, .int .i64 0, .int .i64 0] 26) := ⟨_, rfl⟩
  have bb : Below w1.heap.size w1 w2 := by rw [hw2]; exact below_al (below_d0 _) _
  have br : BoxU w2 z2 noneT (.slice none 0 0) := by rw [hw2, hz2]; exact BoxU.new w1 noneT _
  replace bz := bz.below bb
  replace hS := hS.on bb bb.size
  have B2 := B1.trans (bb.mono B1.size)
  clear bb B1
  have hp2 : z1 + 1 = z2 := by rw [hz2, hw1, hz1]; simp
  have lz2 : w.heap.size ≤ z2 := by omega
  have ne12 : z1 ≠ z2 := by omega
  have HE := Lib.hid (⟨hw1, hw2, hz1, hp2⟩ : _ ∧ _ ∧ _ ∧ _)
  have HLZ := Lib.hid lz2
  clear hw1 hz1 hw2 hz2 hp2 lz2
  unfold tupV
  go_enter Try.func13, Try.ntmps13
  obtain ⟨k0, k1, k2, k3, k4, k5, k6, k7⟩ := bz.cells
  go_wp2_with fail
  clear k0 k1 k2 k3 k4 k5 k6 k7
  rw [← HE.out.1, ← HE.out.2.1, ← HE.out.2.2.1]
  (try rw [HE.out.2.2.2])
  clear HE
  refine Calls.mono (show Calls Try.prog 30 #[.agg #[.int .i64 t.sn.ix, .int .i64 t.sn.tm, .int .i64 t.sn.sm, .int .i64 t.sn.lv, .bool t.sn.fn, .slice A n c, .int .i64 t.tm, .int .i64 t.vt]] w2 (fun e w' => e = .returned (.int .i64 (lastT t)) ∧ Below w2.heap.size w2 w') from rlastT_any t A n c w2 hS (by omega) HB.out.1) ?_
  intro e w3 hh
  obtain ⟨rfl, bb⟩ := hh
  (try clear hh)
  replace bz := bz.below bb
  replace br := br.below bb
  replace hS := hS.on bb bb.size
  have B3 := B2.trans (bb.mono B2.size)
  clear bb B2
  obtain ⟨k0, k1, k2, k3, k4, k5, k6, k7⟩ := bz.cells
  go_wp2_with fail
  clear k0 k1 k2 k3 k4 k5 k6 k7
  refine Calls.mono (show Calls Try.prog 42 #[.agg #[.int .i64 t.sn.ix, .int .i64 t.sn.tm, .int .i64 t.sn.sm, .int .i64 t.sn.lv, .bool t.sn.fn, .slice A n c, .int .i64 t.tm, .int .i64 t.vt], .agg #[.int .i64 t.sn.ix, .int .i64 t.sn.tm, .int .i64 t.sn.sm, .int .i64 t.sn.lv, .bool t.sn.fn, .slice A n c, .int .i64 t.tm, .int .i64 t.vt], .bool false] w3 (OutT (ToldIs t t (false = true)) w.heap.size w3) from told_no0 t t A A n c n c w.heap.size false w3 hS (by omega) (by omega) hnc B3.size rfl) ?_
  intro e w4 hh
  obtain ⟨⟨o, er, A9, n9, c9, rfl, hR, hnc9, own9⟩, bb⟩ := hh
  (try clear hh)
  replace bz := bz.below bb
  replace br := br.below bb
  replace hS := hS.on bb bb.size
  have B4 := B3.trans (bb.mono B3.size)
  clear bb B3
  unfold tupV
  have HR := Lib.hid hR
  clear hR
  obtain ⟨g0, g1, g2, g3, g4, g5, g6, g7⟩ := br.cells
  have f0 := br.frozen 0
  have f1 := br.frozen 1
  have f2 := br.frozen 2
  have f3 := br.frozen 3
  have f4 := br.frozen 4
  have f5 := br.frozen 5
  have f6 := br.frozen 6
  have f7 := br.frozen 7
  go_wp2_with fail
  obtain ⟨W', hW'⟩ : ∃ W', W' = putU w4 z2 o (.slice A9 n9 c9) := ⟨_, rfl⟩
  have b9 := putU_box br o (.slice A9 n9 c9)
  have B9 := putU_below HLZ.out o (.slice A9 n9 c9) B4
  rw [← hW'] at b9 B9
  have e9 : W' = ((((((((w4.setCell ⟨z2, 0, none⟩ (.int .i64 o.sn.ix)).setCell ⟨z2, 1, none⟩ (.int .i64 o.sn.tm)).setCell ⟨z2, 2, none⟩ (.int .i64 o.sn.sm)).setCell ⟨z2, 3, none⟩ (.int .i64 o.sn.lv)).setCell ⟨z2, 4, none⟩ (.bool o.sn.fn)).setCell ⟨z2, 5, none⟩ (.slice A9 n9 c9)).setCell ⟨z2, 6, none⟩ (.int .i64 o.tm)).setCell ⟨z2, 7, none⟩ (.int .i64 o.vt)) := hW'
  have own10 : OwnE W' w.heap.size (.slice A9 n9 c9) n9 o.lg := by rw [hW']; exact putU_own br own9
  rw [← e9]
  clear e9 hW' g0 g1 g2 g3 g4 g5 g6 g7 f0 f1 f2 f3 f4 f5 f6 f7
  obtain ⟨g0, g1, g2, g3, g4, g5, g6, g7⟩ := b9.cells
  exact bodyPost_ret (v := .tuple #[tupV o (.slice A9 n9 c9), .int .i64 er]) (by unfold tupV; simp [results, Try.results13, go_sem, g0, g1, g2, g3, g4, g5, g6, g7]) rfl ⟨⟨o, er, A9, n9, c9, rfl, ToldIs.iff (hno HR.out) HC.out, hnc9, own10⟩, B9⟩
set_option maxRecDepth 100000 in
set_option maxHeartbeats 8000000 in
theorem rcut_2 (t : TupP) (A : Option Addr) (n c : Nat) (i : Int) (w : World) (hS : Es w w.heap.size A n t.lg) (hn : n ≤ 100000) (hnc : n ≤ c) (hx : -1099511627776 ≤ t.sn.ix ∧ t.sn.ix ≤ 1099511627776) (hi : -1099511627776 ≤ i ∧ i ≤ 1099511627776) (c1 : ¬ i ≤ t.sn.ix) (c2 : ¬ lastT t + 1 < i) :
    Calls Try.prog 13 #[tupV t (.slice A n c), .int .i64 i] w (OutT (CutIs t i) w.heap.size w) := by
  have hlst : IntKind.i64.wrap (lastT t + 1) = lastT t + 1 ∧ wrap64 (lastT t + 1) = lastT t + 1 := by have := hS.len; unfold lastT; exact ⟨by rw [IntKind.wrap_i64]; omega, by unfold wrap64; omega⟩
  obtain ⟨r0, r1⟩ := hlst
  have q0 : decide (i ≤ t.sn.ix) = false := decide_eq_false c1
  have q1 : decide (lastT t + 1 < i) = false := decide_eq_false c2
  have HC := Lib.hid (show (true = true) ↔ (t.sn.ix < i ∧ i ≤ lastT t + 1) by simp; omega)
  obtain ⟨u, hu⟩ : ∃ u : Nat, (u : Int) = i - t.sn.ix - 1 := ⟨(i - t.sn.ix - 1).toNat, by omega⟩
  have hun : u ≤ n := by have := hS.len; unfold lastT at c2; omega
  have HU := Lib.hid (show cutT t i = { t with lg := t.lg.take u } by unfold cutT; rw [show (i - t.sn.ix - 1).toNat = u by omega])
  obtain ⟨dd, hdd⟩ : ∃ d : Int, d = i - t.sn.ix := ⟨_, rfl⟩
  have r2 : wrap64 (i - t.sn.ix) = dd := by unfold wrap64; omega
  have r3 : IntKind.i64.wrap (i - t.sn.ix) = dd := by rw [IntKind.wrap_i64]; omega
  have r4 : wrap64 (dd - 1) = (u : Int) := by unfold wrap64; omega
  have r5 : IntKind.i64.wrap (dd - 1) = (u : Int) := by rw [IntKind.wrap_i64]; omega
  clear hu hdd
  obtain ⟨i0, hi0, hz0, hz1, hz2⟩ := info_partsV info_entry
  have HB := Lib.hid (⟨hx, hi⟩ : _ ∧ _)
  clear hx hi c1 c2
  have HS0 := Lib.hid hS
  have Hl := Lib.hid hS.len
  obtain ⟨z1, hz1⟩ : ∃ z, z = w.heap.size := ⟨_, rfl⟩
  obtain ⟨w1, hw1⟩ : ∃ x, x = w.alloc (.cells #[.int .i64 t.sn.ix, .int .i64 t.sn.tm, .int .i64 t.sn.sm, .int .i64 t.sn.lv, .bool t.sn.fn, .slice A n c, .int .i64 t.tm, .int .i64 t.vt] 26) := ⟨_, rfl⟩
  have bb : Below w.heap.size w w1 := by rw [hw1]; exact below_al (below_d0 _) _
  have bz : BoxU w1 z1 t (.slice A n c) := by rw [hw1, hz1]; exact BoxU.new w t _
  replace hS := hS.on bb bb.size
  have B1 := bb
  clear bb
  obtain ⟨z2, hz2⟩ : ∃ z, z = w1.heap.size := ⟨_, rfl⟩
  obtain ⟨w2, hw2⟩ : ∃ x, x = w1.alloc (.cells #[.int .i64 0, .int .i64 0, .int .i64 0, .int .i64 0, .bool false, .slice none 0 0, .int .i64 0, .int .i64 0] 26) := ⟨_, rfl⟩
  have bb : Below w1.heap.size w1 w2 := by rw [hw2]; exact below_al (below_d0 _) _
  have br : BoxU w2 z2 noneT (.slice none 0 0) := by rw [hw2, hz2]; exact BoxU.new w1 noneT _
  replace bz := bz.below bb
  replace hS := hS.on bb bb.size
  have B2 := B1.trans (bb.mono B1.size)
  clear bb B1
  have hp2 : z1 + 1 = z2 := by rw [hz2, hw1, hz1]; simp
  have lz2 : w.heap.size ≤ z2 := by omega
  have ne12 : z1 ≠ z2 := by omega
  have HE := Lib.hid (⟨hw1, hw2, hz1, hp2⟩ : _ ∧ _ ∧ _ ∧ _)
  have HLZ := Lib.hid lz2
  clear hw1 hz1 hw2 hz2 hp2 lz2
  unfold tupV
  go_enter Try.func13, Try.ntmps13
  obtain ⟨k0, k1, k2, k3, k4, k5, k6, k7⟩ := bz.cells
  go_wp2_with fail
  clear k0 k1 k2 k3 k4 k5 k6 k7
  rw [← HE.out.1, ← HE.out.2.1, ← HE.out.2.2.1]
  (try rw [HE.out.2.2.2])
  clear HE
  refine Calls.mono (show Calls Try.prog 30 #[.agg #[.int .i64 t.sn.ix, .int .i64 t.sn.tm, .int .i64 t.sn.sm, .int .i64 t.sn.lv, .bool t.sn.fn, .slice A n c, .int .i64 t.tm, .int .i64 t.vt]] w2 (fun e w' => e = .returned (.int .i64 (lastT t)) ∧ Below w2.heap.size w2 w') from rlastT_any t A n c w2 hS (by omega) HB.out.1) ?_
  intro e w3 hh
  obtain ⟨rfl, bb⟩ := hh
  (try clear hh)
  replace bz := bz.below bb
  replace br := br.below bb
  replace hS := hS.on bb bb.size
  have B3 := B2.trans (bb.mono B2.size)
  clear bb B2
  obtain ⟨k0, k1, k2, k3, k4, k5, k6, k7⟩ := bz.cells
  go_wp2_with fail
  clear k0 k1 k2 k3 k4 k5 k6 k7
  clear q0 q1 r0 r1
  have hb2 := B3.size
  refine Calls.mono (show Calls Try.prog 41 #[.agg #[.int .i64 t.sn.ix, .int .i64 t.sn.tm, .int .i64 t.sn.sm, .int .i64 t.sn.lv, .bool t.sn.fn, .slice A n c, .int .i64 t.tm, .int .i64 t.vt]] w3 (fun e w' => (∃ A' c', e = .returned (tupV t (.slice A' n c')) ∧ n ≤ c' ∧ OwnE w' w3.heap.size (.slice A' n c') n t.lg) ∧ Below w3.heap.size w3 w') from rownT_any t A n c w3 hS (by omega)) ?_
  intro e w4 hh
  obtain ⟨⟨A5, c5, rfl, hc5, own⟩, bb⟩ := hh
  (try clear hh)
  replace bz := bz.below bb
  replace br := br.below bb
  replace hS := hS.on bb bb.size
  have B4 := B3.trans (bb.mono B3.size)
  clear bb B3
  skip
  replace own := own_low own hb2
  have B4x := B4
  clear hb2
  have lbz := bz.lt
  have lbr := br.lt
  obtain ⟨z5, hz5⟩ : ∃ z, z = w4.heap.size := ⟨_, rfl⟩
  obtain ⟨w5, hw5⟩ : ∃ x, x = w4.alloc (.cells #[.int .i64 t.sn.ix, .int .i64 t.sn.tm, .int .i64 t.sn.sm, .int .i64 t.sn.lv, .bool t.sn.fn, .slice A5 n c5, .int .i64 t.tm, .int .i64 t.vt] 26) := ⟨_, rfl⟩
  have bb : Below w4.heap.size w4 w5 := by rw [hw5]; exact below_al (below_d0 _) _
  have bo : BoxU w5 z5 t (.slice A5 n c5) := by rw [hw5, hz5]; exact BoxU.new w4 t _
  replace own := own_keep own bb
  replace bz := bz.below bb
  replace br := br.below bb
  replace hS := hS.on bb bb.size
  have B5 := B4.trans (bb.mono B4.size)
  clear bb B4
  have hzo : w.heap.size ≤ z5 := by rw [hz5]; exact B4x.size
  have nbz : z1 ≠ z5 := by omega
  have nbr : z2 ≠ z5 := by omega
  have HE2 := Lib.hid (⟨hw5, hz5⟩ : _ ∧ _)
  clear hw5 hz5 lbz lbr
  unfold tupV
  go_upto_region 4 with fail
  rw [← HE2.out.1, ← HE2.out.2]
  clear HE2
  have hsl : ∀ W : World, (Instr.slice 24 (.slice A5 n c5) none (some (.int .i64 (u : Int))) none).run Try.prog W = .ok (.slice A5 u c5) W := fun W => cut_firstE Try.underlying24 hi0 A5 n c5 u (by omega) W
  obtain ⟨j0, j1, j2, j3, j4, j5, j6, j7⟩ := bo.cells
  have f5 := bo.frozen 5
  obtain ⟨k0, k1, k2, k3, k4, k5, k6, k7⟩ := bz.cells
  go_upto_region 5 with fail
  clear j0 j1 j2 j3 j4 j5 j6 j7
  clear k0 k1 k2 k3 k4 k5 k6 k7
  clear f5 hsl r2 r3 r4 r5 hi0 hz0 hz1 hz2
  obtain ⟨w6, hw6⟩ : ∃ x, x = w5.setCell ⟨z5, 5, none⟩ (.slice A5 u c5) := ⟨_, rfl⟩
  replace own : OwnE w6 w.heap.size (.slice A5 u c5) u (t.lg.take u) := by rw [hw6]; exact set_ownU bo (own_first own hun)
  replace bz : BoxU w6 z1 t (.slice A n c) := by rw [hw6]; exact set_boxU bz nbz
  replace br : BoxU w6 z2 noneT (.slice none 0 0) := by rw [hw6]; exact set_boxU br nbr
  replace bo : BoxU w6 z5 { t with lg := t.lg.take u } (.slice A5 u c5) := by rw [hw6]; exact put5U bo (t.lg.take u) _
  have B6 : Below w.heap.size w w6 := by rw [hw6]; exact B5.setCell (p := ⟨z5, 5, none⟩) hzo _
  clear hS
  have hS : Es w6 w6.heap.size A n t.lg := Row.on HS0.out B6 B6.size
  rw [← hw6]
  clear hw6 B5
  obtain ⟨k0, k1, k2, k3, k4, k5, k6, k7⟩ := bz.cells
  obtain ⟨j0, j1, j2, j3, j4, j5, j6, j7⟩ := bo.cells
  go_wp2_with fail
  clear k0 k1 k2 k3 k4 k5 k6 k7
  clear j0 j1 j2 j3 j4 j5 j6 j7
  refine Calls.mono (show Calls Try.prog 42 #[.agg #[.int .i64 t.sn.ix, .int .i64 t.sn.tm, .int .i64 t.sn.sm, .int .i64 t.sn.lv, .bool t.sn.fn, .slice A n c, .int .i64 t.tm, .int .i64 t.vt], .agg #[.int .i64 t.sn.ix, .int .i64 t.sn.tm, .int .i64 t.sn.sm, .int .i64 t.sn.lv, .bool t.sn.fn, .slice A5 u c5, .int .i64 t.tm, .int .i64 t.vt], .bool true] w6 (OutT (ToldIs t { t with lg := t.lg.take u } (true = true)) w.heap.size w6) from rtoldT_any t { t with lg := t.lg.take u } A A5 n c u c5 w.heap.size true w6 hS own (by omega) (by omega) (by omega) B6.size) ?_
  intro e w7 hh
  obtain ⟨⟨o, er, A9, n9, c9, rfl, hR, hnc9, own9⟩, bb⟩ := hh
  (try clear hh)
  replace bz := bz.below bb
  replace br := br.below bb
  replace bo := bo.below bb
  replace hS := hS.on bb bb.size
  have B7 := B6.trans (bb.mono B6.size)
  clear bb B6
  rw [← HU.out] at hR
  unfold tupV
  have HR := Lib.hid hR
  clear hR
  obtain ⟨g0, g1, g2, g3, g4, g5, g6, g7⟩ := br.cells
  have f0 := br.frozen 0
  have f1 := br.frozen 1
  have f2 := br.frozen 2
  have f3 := br.frozen 3
  have f4 := br.frozen 4
  have f5 := br.frozen 5
  have f6 := br.frozen 6
  have f7 := br.frozen 7
  go_wp2_with fail
  obtain ⟨W', hW'⟩ : ∃ W', W' = putU w7 z2 o (.slice A9 n9 c9) := ⟨_, rfl⟩
  have b9 := putU_box br o (.slice A9 n9 c9)
  have B9 := putU_below HLZ.out o (.slice A9 n9 c9) B7
  rw [← hW'] at b9 B9
  have e9 : W' = ((((((((w7.setCell ⟨z2, 0, none⟩ (.int .i64 o.sn.ix)).setCell ⟨z2, 1, none⟩ (.int .i64 o.sn.tm)).setCell ⟨z2, 2, none⟩ (.int .i64 o.sn.sm)).setCell ⟨z2, 3, none⟩ (.int .i64 o.sn.lv)).setCell ⟨z2, 4, none⟩ (.bool o.sn.fn)).setCell ⟨z2, 5, none⟩ (.slice A9 n9 c9)).setCell ⟨z2, 6, none⟩ (.int .i64 o.tm)).setCell ⟨z2, 7, none⟩ (.int .i64 o.vt)) := hW'
  have own10 : OwnE W' w.heap.size (.slice A9 n9 c9) n9 o.lg := by rw [hW']; exact putU_own br own9
  rw [← e9]
  clear e9 hW' g0 g1 g2 g3 g4 g5 g6 g7 f0 f1 f2 f3 f4 f5 f6 f7
  obtain ⟨g0, g1, g2, g3, g4, g5, g6, g7⟩ := b9.cells
  exact bodyPost_ret (v := .tuple #[tupV o (.slice A9 n9 c9), .int .i64 er]) (by unfold tupV; simp [results, Try.results13, go_sem, g0, g1, g2, g3, g4, g5, g6, g7]) rfl ⟨⟨o, er, A9, n9, c9, rfl, ToldIs.iff HR.out HC.out, hnc9, own10⟩, B9⟩
theorem told_false {t u o : TupP} {er : Int} (h : ToldIs t t (false = true) o er) : ToldIs t u (false = true) o er := by
  obtain ⟨rfl, rfl⟩ := h.no (by simp)
  exact .inr ⟨by simp, rfl, rfl⟩
theorem rcutT_any (t : TupP) (A : Option Addr) (n c : Nat) (i : Int) (w : World) (hS : Es w w.heap.size A n t.lg) (hn : n ≤ 100000) (hnc : n ≤ c) (hx : -1099511627776 ≤ t.sn.ix ∧ t.sn.ix ≤ 1099511627776) (hi : -1099511627776 ≤ i ∧ i ≤ 1099511627776) :
    Calls Try.prog 13 #[tupV t (.slice A n c), .int .i64 i] w (OutT (CutIs t i) w.heap.size w) := by
  by_cases c1 : i ≤ t.sn.ix
  · exact rcut_0 t A n c i w hS hn hnc hx hi c1 told_false
  by_cases c2 : lastT t + 1 < i
  · exact rcut_1 t A n c i w hS hn hnc hx hi c1 c2 told_false
  exact rcut_2 t A n c i w hS hn hnc hx hi c1 c2
end Go.Proofs.Ytbhnlmlaebngmaa
