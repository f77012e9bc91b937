/-
  Package tuple: done: its contract.
-/
import Derived.Test.YtbhnlmlaebngmaaTupX
namespace Go.Proofs.Ytbhnlmlaebngmaa
open Go.RowKit Go.Shelf
set_option linter.unusedVariables false
set_option linter.unusedSimpArgs false
/-- A box of one cell. -/
def BoxV (W : World) (z : Nat) (T : TypeId) (v : Value) : Prop := W.heap[z]? = some (.cells #[v] T (0, 0))
theorem BoxV.new (w : World) (T : TypeId) (v : Value) : BoxV (w.alloc (.cells #[v] T)) w.heap.size T v := World.alloc_heap_new w _
theorem BoxV.lt {W : World} {z : Nat} {T : TypeId} {v : Value} (h : BoxV W z T v) : z < W.heap.size := (Array.getElem?_eq_some_iff.1 h).1
theorem BoxV.below {W W' : World} {z : Nat} {T : TypeId} {v : Value} (h : BoxV W z T v) (hb : Below W.heap.size W W') : BoxV W' z T v := (hb.block z h.lt).trans h
theorem BoxV.boxed {W : World} {z : Nat} {T : TypeId} {v : Value} (h : BoxV W z T v) : Boxed W z T v := h
theorem BoxV.cell {W : World} {z : Nat} {T : TypeId} {v : Value} (h : BoxV W z T v) : W.cell? ⟨z, 0, none⟩ = some v := Boxed.cell h
set_option maxRecDepth 100000 in
set_option maxHeartbeats 8000000 in
theorem done_any (t o : TupP) (q : Prop) (g : Nat) (dc : Array Value) (hg : Enters Try.prog g) (A : Option Addr) (n c : Nat) (w : World) (hS : Es w w.heap.size A n t.lg) (hn : n ≤ 100000) (hst : StepIs g dc t o q w) :
    Calls Try.prog 39 #[tupV t (.slice A n c), .func (.func g) #[] dc] w (OutF (ToldIs t o q) w.heap.size w) := by
  have hmf : ∀ (fn : Fn) (first cap : Array Value) (w : World), (Instr.makeFunc fn first cap).run Try.prog w = .ok (.func fn first cap) w := fun _ _ _ _ => rfl
  have HT := Lib.hid hst
  clear hst
  have HS0 := Lib.hid hS
  obtain ⟨z1, hz1⟩ : ∃ z, z = w.heap.size := ⟨_, rfl⟩
  obtain ⟨w1, hw1⟩ : ∃ x, x = w.alloc (.cells #[.int .i64 t.sn.ix, .int .i64 t.sn.tm, .int .i64 t.sn.sm, .int .i64 t.sn.lv, .bool t.sn.fn, .slice A n c, .int .i64 t.tm, .int .i64 t.vt] 26) := ⟨_, rfl⟩
  have bb : Below w.heap.size w w1 := by rw [hw1]; exact below_al (below_d0 _) _
  have bz : BoxU w1 z1 t (.slice A n c) := by rw [hw1, hz1]; exact BoxU.new w t _
  replace hS := hS.on bb bb.size
  have B1 := bb
  clear bb
  obtain ⟨z2, hz2⟩ : ∃ z, z = w1.heap.size := ⟨_, rfl⟩
  obtain ⟨w2, hw2⟩ : ∃ x, x = w1.alloc (.cells #[.func (.func g) #[] dc] 71) := ⟨_, rfl⟩
  have bb : Below w1.heap.size w1 w2 := by rw [hw2]; exact below_al (below_d0 _) _
  have bd : BoxV w2 z2 71 (.func (.func g) #[] dc) := by rw [hw2, hz2]; exact BoxV.new w1 _ _
  replace bz := bz.below bb
  replace hS := hS.on bb bb.size
  have B2 := B1.trans (bb.mono B1.size)
  clear bb B1
  obtain ⟨z3, hz3⟩ : ∃ z, z = w2.heap.size := ⟨_, rfl⟩
  obtain ⟨w3, hw3⟩ : ∃ x, x = w2.alloc (.cells #[.int .i64 0, .int .i64 0, .int .i64 0, .int .i64 0, .bool false, .slice none 0 0, .int .i64 0, .int .i64 0] 26) := ⟨_, rfl⟩
  have bb : Below w2.heap.size w2 w3 := by rw [hw3]; exact below_al (below_d0 _) _
  have br : BoxU w3 z3 noneT (.slice none 0 0) := by rw [hw3, hz3]; exact BoxU.new w2 noneT _
  replace bz := bz.below bb
  replace bd := bd.below bb
  replace hS := hS.on bb bb.size
  have B3 := B2.trans (bb.mono B2.size)
  clear bb B2
  obtain ⟨z4, hz4⟩ : ∃ z, z = w3.heap.size := ⟨_, rfl⟩
  obtain ⟨w4, hw4⟩ : ∃ x, x = w3.alloc (.cells #[.int .i64 0, .int .i64 0, .int .i64 0, .int .i64 0, .bool false, .slice none 0 0, .int .i64 0, .int .i64 0] 26) := ⟨_, rfl⟩
  have bb : Below w3.heap.size w3 w4 := by rw [hw4]; exact below_al (below_d0 _) _
  have bo : BoxU w4 z4 noneT (.slice none 0 0) := by rw [hw4, hz4]; exact BoxU.new w3 noneT _
  replace bz := bz.below bb
  replace bd := bd.below bb
  replace br := br.below bb
  replace hS := hS.on bb bb.size
  have B4 := B3.trans (bb.mono B3.size)
  clear bb B3
  have hp2 : z1 + 1 = z2 := by rw [hz2, hw1, hz1]; simp
  have hp3 : z2 + 1 = z3 := by rw [hz3, hw2, hz2]; simp
  have hp4 : z3 + 1 = z4 := by rw [hz4, hw3, hz3]; simp
  have lz2 : w.heap.size ≤ z2 := by omega
  have lz3 : w.heap.size ≤ z3 := by omega
  have lz4 : w.heap.size ≤ z4 := by omega
  have ne12 : z1 ≠ z2 := by omega
  have ne13 : z1 ≠ z3 := by omega
  have ne14 : z1 ≠ z4 := by omega
  have ne23 : z2 ≠ z3 := by omega
  have ne24 : z2 ≠ z4 := by omega
  have ne34 : z3 ≠ z4 := by omega
  have HE := Lib.hid (⟨hw1, hw2, hw3, hw4, hz1, hp2, hp3, hp4⟩ : _ ∧ _ ∧ _ ∧ _ ∧ _ ∧ _ ∧ _ ∧ _)
  have HLZ := Lib.hid (⟨lz2, lz3, lz4⟩ : _ ∧ _ ∧ _)
  clear hw1 hz1 hw2 hz2 hw3 hz3 hw4 hz4 hp2 hp3 hp4 lz2 lz3 lz4
  unfold tupV
  go_enter Try.func39, Try.ntmps39
  go_wp2_with fail
  rw [← HE.out.1, ← HE.out.2.1, ← HE.out.2.2.1, ← HE.out.2.2.2.1, ← HE.out.2.2.2.2.1]
  (try rw [HE.out.2.2.2.2.2.1])
  (try rw [HE.out.2.2.2.2.2.2.1])
  (try rw [HE.out.2.2.2.2.2.2.2])
  clear HE
  have HN := Lib.hid (⟨ne14, ne34, ne13⟩ : _ ∧ _ ∧ _)
  have hsz := B4.size
  have l1 := bz.lt
  have l3 := br.lt
  have l4 := bo.lt
  refine Calls.mono (show Calls Try.prog 53 #[.func (.func 62) #[] #[.pointer (some ⟨z1, 0, none⟩), .pointer (some ⟨z2, 0, none⟩), .pointer (some ⟨z4, 0, none⟩)]] w4 (HoldsOut (DoneIs t o q (.slice A n c) w z1 z3 z4) w4.heap.size) from holds_any 62 _ w4 (enters_of Try.func62 (by kernel_rfl) rfl) (DoneIs t o q (.slice A n c) w z1 z3 z4) (by
    rintro W rfl
    have b1 : Below w4.heap.size w4 (w4.alloc (.cells #[.bool false] 4)) := below_al (below_d0 _) _
    exact look_any t o q g dc hg A n c z1 z2 z3 z4 _ w _ (hS.on b1 b1.size) hn HT.out (B4.trans (b1.mono hsz)) (bz.below b1) (bd.below b1) (br.below b1) (bo.below b1) (Boxed.new _ _ _) HLZ.out.2.2 HN.out.1 HN.out.2.1 (by omega))) ?_
  rintro e ww ⟨b, wx, hD, hbx, rfl, rfl⟩
  replace hD := hD.put hbx hsz (by omega) (by omega) (by omega)
  obtain ⟨wy, hwy⟩ : ∃ x, x = putB wx w4.heap.size b := ⟨_, rfl⟩
  rw [← hwy] at hD ⊢
  clear hwy hbx hS bz bd br bo B4 l1 l3 l4 hsz
  obtain ⟨B5, kt, kr, hyes, hno⟩ := hD
  cases b with
  | true =>
    obtain ⟨⟨hq, hM, hO⟩, A3, n3, c3, ko, hc3, own3⟩ := hyes rfl
    have H5 := Lib.hid (⟨hq, hM, hO, hc3, own3⟩ : _ ∧ _ ∧ _ ∧ _ ∧ _)
    clear hyes hno hq hM hO hc3 own3 kt
    obtain ⟨k0, k1, k2, k3, k4, k5, k6, k7⟩ := ko.cells
    obtain ⟨g0, g1, g2, g3, g4, g5, g6, g7⟩ := kr.cells
    have f0 := kr.frozen 0
    have f1 := kr.frozen 1
    have f2 := kr.frozen 2
    have f3 := kr.frozen 3
    have f4 := kr.frozen 4
    have f5 := kr.frozen 5
    have f6 := kr.frozen 6
    have f7 := kr.frozen 7
    go_wp2_with fail
    obtain ⟨hq, hM, hO, hc3, own3⟩ := H5.out
    obtain ⟨W', hW'⟩ : ∃ W', W' = putU wy z3 o (.slice A3 n3 c3) := ⟨_, rfl⟩
    have b9 := putU_box kr o (.slice A3 n3 c3)
    have B9 := putU_below HLZ.out.2.1 o (.slice A3 n3 c3) B5
    have own9 : OwnF W' w.heap.size (.slice A3 n3 c3) n3 o.lg := by rw [hW']; exact putU_ownF kr own3
    rw [← hW'] at b9 B9
    have e9 : W' = ((((((((wy.setCell ⟨z3, 0, none⟩ (.int .i64 o.sn.ix)).setCell ⟨z3, 1, none⟩ (.int .i64 o.sn.tm)).setCell ⟨z3, 2, none⟩ (.int .i64 o.sn.sm)).setCell ⟨z3, 3, none⟩ (.int .i64 o.sn.lv)).setCell ⟨z3, 4, none⟩ (.bool o.sn.fn)).setCell ⟨z3, 5, none⟩ (.slice A3 n3 c3)).setCell ⟨z3, 6, none⟩ (.int .i64 o.tm)).setCell ⟨z3, 7, none⟩ (.int .i64 o.vt)) := hW'
    rw [← e9]
    clear e9 hW' g0 g1 g2 g3 g4 g5 g6 g7 f0 f1 f2 f3 f4 f5 f6 f7 k0 k1 k2 k3 k4 k5 k6 k7
    obtain ⟨g0, g1, g2, g3, g4, g5, g6, g7⟩ := b9.cells
    exact bodyPost_ret (v := .tuple #[tupV o (.slice A3 n3 c3), .int .i64 0]) (by unfold tupV; simp [results, Try.results39, go_sem, g0, g1, g2, g3, g4, g5, g6, g7]) rfl ⟨⟨o, 0, A3, n3, c3, rfl, .inl ⟨hq, hM, hO, rfl, rfl⟩, hc3, own9⟩, B9⟩
  | false =>
    have H5 := Lib.hid (hno rfl)
    clear hyes hno
    obtain ⟨k0, k1, k2, k3, k4, k5, k6, k7⟩ := kt.cells
    go_wp2_with fail
    clear k0 k1 k2 k3 k4 k5 k6 k7
    have hS5 : Es wy wy.heap.size A n t.lg := HS0.out.on B5 B5.size
    refine Calls.mono (show Calls Try.prog 34 #[.agg #[.int .i64 t.sn.ix, .int .i64 t.sn.tm, .int .i64 t.sn.sm, .int .i64 t.sn.lv, .bool t.sn.fn, .slice A n c, .int .i64 t.tm, .int .i64 t.vt]] wy (fun e w' => (∃ A' c', e = .returned (tupV t (.slice A' n c')) ∧ n ≤ c' ∧ OwnE w' wy.heap.size (.slice A' n c') n t.lg) ∧ Below wy.heap.size wy w') from ownE_any t A n c wy hS5 hn) ?_
    rintro e w6 ⟨⟨A3, c3, rfl, hc3, own3⟩, b6⟩
    unfold tupV
    have B6 := B5.trans (b6.mono B5.size)
    have kr6 := kr.below b6
    have own6 : OwnF w6 w.heap.size (.slice A3 n c3) n t.lg := OwnF.of (own_low own3 B5.size)
    clear own3 b6 kr kt B5 hS5
    have H6 := Lib.hid (⟨hc3, own6⟩ : _ ∧ _)
    clear hc3 own6
    obtain ⟨g0, g1, g2, g3, g4, g5, g6, g7⟩ := kr6.cells
    have f0 := kr6.frozen 0
    have f1 := kr6.frozen 1
    have f2 := kr6.frozen 2
    have f3 := kr6.frozen 3
    have f4 := kr6.frozen 4
    have f5 := kr6.frozen 5
    have f6 := kr6.frozen 6
    have f7 := kr6.frozen 7
    go_wp2_with fail
    obtain ⟨hc3, own6⟩ := H6.out
    obtain ⟨W', hW'⟩ : ∃ W', W' = putU w6 z3 t (.slice A3 n c3) := ⟨_, rfl⟩
    have b9 := putU_box kr6 t (.slice A3 n c3)
    have B9 := putU_below HLZ.out.2.1 t (.slice A3 n c3) B6
    have own9 : OwnF W' w.heap.size (.slice A3 n c3) n t.lg := by rw [hW']; exact putU_ownF kr6 own6
    rw [← hW'] at b9 B9
    have e9 : W' = ((((((((w6.setCell ⟨z3, 0, none⟩ (.int .i64 t.sn.ix)).setCell ⟨z3, 1, none⟩ (.int .i64 t.sn.tm)).setCell ⟨z3, 2, none⟩ (.int .i64 t.sn.sm)).setCell ⟨z3, 3, none⟩ (.int .i64 t.sn.lv)).setCell ⟨z3, 4, none⟩ (.bool t.sn.fn)).setCell ⟨z3, 5, none⟩ (.slice A3 n c3)).setCell ⟨z3, 6, none⟩ (.int .i64 t.tm)).setCell ⟨z3, 7, none⟩ (.int .i64 t.vt)) := hW'
    rw [← e9]
    clear e9 hW' g0 g1 g2 g3 g4 g5 g6 g7 f0 f1 f2 f3 f4 f5 f6 f7
    obtain ⟨g0, g1, g2, g3, g4, g5, g6, g7⟩ := b9.cells
    exact bodyPost_ret (v := .tuple #[tupV t (.slice A3 n c3), .int .i64 2]) (by unfold tupV; simp [results, Try.results39, go_sem, g0, g1, g2, g3, g4, g5, g6, g7]) rfl ⟨⟨t, 2, A3, n, c3, rfl, .inr ⟨H5.out, rfl, rfl⟩, hc3, own9⟩, B9⟩
end Go.Proofs.Ytbhnlmlaebngmaa
