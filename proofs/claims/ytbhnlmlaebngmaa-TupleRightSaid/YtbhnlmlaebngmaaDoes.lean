/-
  TupleRight: it returns true, whatever package tuple's contracts are proved by.
-/
import Derived.Test.YtbhnlmlaebngmaaRightP
import Derived.Deep.DeepCutAuto
namespace Go.Proofs.Ytbhnlmlaebngmaa
open Go.RowKit
set_option linter.unusedVariables false
set_option linter.unusedSimpArgs false

def BoxD (W : World) (z : Nat) (d : DeedP) : Prop := W.heap[z]? = some (.cells #[.int .u8 d.what, .slice d.A d.n d.c, .int .i64 d.at_, .int .i64 d.s.ix, .int .i64 d.s.tm, .int .i64 d.s.sm, .int .i64 d.s.lv, .bool d.s.fn, .int .i64 d.tm, .int .i64 d.vt] 50 (0, 0))
theorem BoxD.cells {W : World} {z : Nat} {d : DeedP} (h : BoxD W z d) : W.cell? ⟨z, 0, none⟩ = some (.int .u8 d.what) ∧ W.cell? ⟨z, 1, none⟩ = some (.slice d.A d.n d.c) ∧ W.cell? ⟨z, 2, none⟩ = some (.int .i64 d.at_) ∧ W.cell? ⟨z, 3, none⟩ = some (.int .i64 d.s.ix) ∧ W.cell? ⟨z, 4, none⟩ = some (.int .i64 d.s.tm) ∧ W.cell? ⟨z, 5, none⟩ = some (.int .i64 d.s.sm) ∧ W.cell? ⟨z, 6, none⟩ = some (.int .i64 d.s.lv) ∧ W.cell? ⟨z, 7, none⟩ = some (.bool d.s.fn) ∧ W.cell? ⟨z, 8, none⟩ = some (.int .i64 d.tm) ∧ W.cell? ⟨z, 9, none⟩ = some (.int .i64 d.vt) := by
  refine ⟨?_, ?_, ?_, ?_, ?_, ?_, ?_, ?_, ?_, ?_⟩ <;> simp [World.cell?, show W.heap[z]? = _ from h]
theorem BoxD.lt {W : World} {z : Nat} {d : DeedP} (h : BoxD W z d) : z < W.heap.size := (Array.getElem?_eq_some_iff.1 h).1
theorem BoxD.below {W W' : World} {z : Nat} {d : DeedP} (h : BoxD W z d) (hb : Below W.heap.size W W') : BoxD W' z d := (hb.block z h.lt).trans h
theorem BoxD.new (w : World) (d : DeedP) : BoxD (w.alloc (.cells #[.int .u8 d.what, .slice d.A d.n d.c, .int .i64 d.at_, .int .i64 d.s.ix, .int .i64 d.s.tm, .int .i64 d.s.sm, .int .i64 d.s.lv, .bool d.s.fn, .int .i64 d.tm, .int .i64 d.vt] 50)) w.heap.size d := World.alloc_heap_new w _
/-- The row of what is answered: the call's own, or the very one that was handed over. -/
def RowD (W : World) (B : Nat) (A9 : Option Addr) (n9 c9 : Nat) (l9 : List EnP) (A : Option Addr) (n c : Nat) (l : List EnP) : Prop := OwnF W B (.slice A9 n9 c9) n9 l9 ∨ (l9 = l ∧ A9 = A ∧ n9 = n ∧ c9 = c)
theorem RowD.keep {W W' : World} {B : Nat} {A9 A : Option Addr} {n9 c9 n c : Nat} {l9 l : List EnP} (h : RowD W B A9 n9 c9 l9 A n c l) (hb : Below W.heap.size W W') : RowD W' B A9 n9 c9 l9 A n c l := h.imp (fun h => keepF h hb) id
theorem RowD.low {W : World} {B B' : Nat} {A9 A : Option Addr} {n9 c9 n c : Nat} {l9 l : List EnP} (h : RowD W B A9 n9 c9 l9 A n c l) (hb : B' ≤ B) : RowD W B' A9 n9 c9 l9 A n c l := h.imp (fun h => lowF h hb) id
def OutD (t : TupP) (d : DeedP) (A : Option Addr) (n c : Nat) (w : World) (e : Ending) (w' : World) : Prop :=
  (∃ (o : TupP) (er : Int) (A9 : Option Addr) (n9 c9 : Nat), e = .returned (.tuple #[tupV o (.slice A9 n9 c9), .int .i64 er]) ∧ DoesIs t d o er ∧ n9 ≤ c9 ∧ RowD w' w.heap.size A9 n9 c9 o.lg A n c t.lg) ∧ Below w.heap.size w w'
/-- The row of the tuple at hand: an old one, or the law's own. -/
def RowT (w W : World) (A : Option Addr) (n c : Nat) (l : List EnP) : Prop := Es w w.heap.size A n l ∨ OwnF W w.heap.size (.slice A n c) n l
theorem RowT.es {w W : World} {A : Option Addr} {n c : Nat} {l : List EnP} (h : RowT w W A n c l) (hb : Below w.heap.size w W) : Es W W.heap.size A n l := by
  rcases h with h | h
  · exact Row.on h hb hb.size
  · exact OwnF.es h
theorem RowT.keep {w W W' : World} {A : Option Addr} {n c : Nat} {l : List EnP} (h : RowT w W A n c l) (hb : Below W.heap.size W W') : RowT w W' A n c l := h.imp id fun h => keepF h hb
theorem RowT.put {w W : World} {A : Option Addr} {n c z : Nat} {l : List EnP} {t m : TupP} {u x : Value} (h : RowT w W A n c l) (hz : BoxU W z t u) : RowT w (putU W z m x) A n c l := h.imp id fun h => putU_ownF hz h
theorem RowD.row {w W : World} {B : Nat} {A9 A : Option Addr} {n9 c9 n c : Nat} {l9 l : List EnP} (h : RowD W B A9 n9 c9 l9 A n c l) (hB : w.heap.size ≤ B) (ht : RowT w W A n c l) : RowT w W A9 n9 c9 l9 := by
  rcases h with h | ⟨rfl, rfl, rfl, rfl⟩
  · exact .inr (lowF h hB)
  · exact ht
set_option maxRecDepth 100000 in
set_option maxHeartbeats 16000000 in
theorem deed_0 (D : Dev12) (t : TupP) (d : DeedP) (A : Option Addr) (n c : Nat) (w : World) (hS : Es w w.heap.size A n t.lg) (hnc : n ≤ c) (hM : MayT t) (hd : DeedP.Ok w w.heap.size d) (hdn : d.n ≤ 20) (hr : d.what % 5 = 0) :
    Calls Try.prog 35 #[tupV t (.slice A n c), d.v] w (OutD t d A n c w) := by
  have pr1 : Int.tmod d.what 5 = 0 := by rw [Int.tmod_eq_emod_of_nonneg hd.what.1]; exact hr
  have pr2 : d.what % 5 = 0 := hr
  have HR5 := Lib.hid hr
  clear hr
  have hl := hS.len
  have hfew := hM.few
  have hn2 : n ≤ 200 := by omega
  have hmt : Mid t.sn.ix := mid_of (by have h1 := hM.fine.1; omega)
  have HM := Lib.hid (⟨hmt, hM, hd⟩ : _ ∧ _ ∧ _)
  clear hmt hM hd hl hfew
  obtain ⟨z1, hz1⟩ : ∃ z, z = w.heap.size := ⟨_, rfl⟩
  obtain ⟨w1, hw1⟩ : ∃ x, x = w.alloc (.cells #[.int .i64 t.sn.ix, .int .i64 t.sn.tm, .int .i64 t.sn.sm, .int .i64 t.sn.lv, .bool t.sn.fn, .slice A n c, .int .i64 t.tm, .int .i64 t.vt] 26) := ⟨_, rfl⟩
  have bb : Below w.heap.size w w1 := by rw [hw1]; exact below_al (below_d0 _) _
  have bz : BoxU w1 z1 t (.slice A n c) := by rw [hw1, hz1]; exact BoxU.new w t _
  replace hS := hS.on bb bb.size
  have B1 := bb
  clear bb
  obtain ⟨z2, hz2⟩ : ∃ z, z = w1.heap.size := ⟨_, rfl⟩
  obtain ⟨w2, hw2⟩ : ∃ x, x = w1.alloc (.cells #[.int .u8 d.what, .slice d.A d.n d.c, .int .i64 d.at_, .int .i64 d.s.ix, .int .i64 d.s.tm, .int .i64 d.s.sm, .int .i64 d.s.lv, .bool d.s.fn, .int .i64 d.tm, .int .i64 d.vt] 50) := ⟨_, rfl⟩
  have bb : Below w1.heap.size w1 w2 := by rw [hw2]; exact below_al (below_d0 _) _
  have bd : BoxD w2 z2 d := by rw [hw2, hz2]; exact BoxD.new w1 d
  replace bz := bz.below bb
  replace hS := hS.on bb bb.size
  have B2 := B1.trans (bb.mono B1.size)
  clear bb B1
  obtain ⟨z3, hz3⟩ : ∃ z, z = w2.heap.size := ⟨_, rfl⟩
  obtain ⟨w3, hw3⟩ : ∃ x, x = w2.alloc (.cells #[.int .i64 0, .int .i64 0, .int .i64 0, .int .i64 0, .bool false, .slice none 0 0, .int .i64 0, .int .i64 0] 26) := ⟨_, rfl⟩
  have bb : Below w2.heap.size w2 w3 := by rw [hw3]; exact below_al (below_d0 _) _
  have br : BoxU w3 z3 noneT (.slice none 0 0) := by rw [hw3, hz3]; exact BoxU.new w2 noneT _
  replace bz := bz.below bb
  replace bd := bd.below bb
  replace hS := hS.on bb bb.size
  have B3 := B2.trans (bb.mono B2.size)
  clear bb B2
  have hp2 : z1 + 1 = z2 := by rw [hz2, hw1, hz1]; simp
  have hp3 : z2 + 1 = z3 := by rw [hz3, hw2, hz2]; simp
  have lz2 : w.heap.size ≤ z2 := by omega
  have lz3 : w.heap.size ≤ z3 := by omega
  have ne12 : z1 ≠ z2 := by omega
  have ne13 : z1 ≠ z3 := by omega
  have ne23 : z2 ≠ z3 := by omega
  have HE := Lib.hid (⟨hw1, hw2, hw3, hz1, hp2, hp3⟩ : _ ∧ _ ∧ _ ∧ _ ∧ _ ∧ _)
  have HLZ := Lib.hid (⟨lz2, lz3⟩ : _ ∧ _)
  clear hw1 hz1 hw2 hz2 hw3 hz3 hp2 hp3 lz2 lz3
  skip
  unfold DeedP.v
  unfold tupV
  go_enter Try.func35, Try.ntmps35
  obtain ⟨k0, k1, k2, k3, k4, k5, k6, k7⟩ := bz.cells
  obtain ⟨d0, d1, d2, d3, d4, d5, d6, d7, d8, d9⟩ := bd.cells
  go_wp2_with fail
  clear k0 k1 k2 k3 k4 k5 k6 k7
  clear d0 d1 d2 d3 d4 d5 d6 d7 d8 d9
  rw [← HE.out.1, ← HE.out.2.1, ← HE.out.2.2.1, ← HE.out.2.2.2.1]
  (try rw [HE.out.2.2.2.2.1])
  (try rw [HE.out.2.2.2.2.2])
  clear HE
  have hb5 := B3.size
  refine Calls.mono (show Calls Try.prog 10 #[.agg #[.int .i64 t.sn.ix, .int .i64 t.sn.tm, .int .i64 t.sn.sm, .int .i64 t.sn.lv, .bool t.sn.fn, .slice A n c, .int .i64 t.tm, .int .i64 t.vt], .slice d.A d.n d.c] w3 (OutF (AppendIs t d.lg) w3.heap.size w3) from D.append t A n c d.A d.n d.c d.lg w3 hS (by omega) hnc HM.out.1 (HM.out.2.2.on B3 B3.size).row (by omega) HM.out.2.2.cap) ?_
  intro e w4 hh
  obtain ⟨⟨o, er, A9, n9, c9, rfl, hR, hnc9, own9⟩, bb⟩ := hh
  (try clear hh)
  replace bz := bz.below bb
  replace bd := bd.below bb
  replace br := br.below bb
  replace hS := hS.on bb bb.size
  have B4 := B3.trans (bb.mono B3.size)
  clear bb B3
  replace own9 := lowF own9 hb5
  clear hb5
  have HR := Lib.hid hR
  clear hR
  unfold tupV
  obtain ⟨g0, g1, g2, g3, g4, g5, g6, g7⟩ := br.cells
  have f0 := br.frozen 0
  have f1 := br.frozen 1
  have f2 := br.frozen 2
  have f3 := br.frozen 3
  have f4 := br.frozen 4
  have f5 := br.frozen 5
  have f6 := br.frozen 6
  have f7 := br.frozen 7
  go_wp2_with fail
  obtain ⟨W', hW'⟩ : ∃ W', W' = putU w4 z3 o (.slice A9 n9 c9) := ⟨_, rfl⟩
  have b9 := putU_box br o (.slice A9 n9 c9)
  have B9 := putU_below HLZ.out.2 o (.slice A9 n9 c9) B4
  rw [← hW'] at b9 B9
  have e9 : W' = ((((((((w4.setCell ⟨z3, 0, none⟩ (.int .i64 o.sn.ix)).setCell ⟨z3, 1, none⟩ (.int .i64 o.sn.tm)).setCell ⟨z3, 2, none⟩ (.int .i64 o.sn.sm)).setCell ⟨z3, 3, none⟩ (.int .i64 o.sn.lv)).setCell ⟨z3, 4, none⟩ (.bool o.sn.fn)).setCell ⟨z3, 5, none⟩ (.slice A9 n9 c9)).setCell ⟨z3, 6, none⟩ (.int .i64 o.tm)).setCell ⟨z3, 7, none⟩ (.int .i64 o.vt)) := hW'
  have own10 : OwnF W' w.heap.size (.slice A9 n9 c9) n9 o.lg := by rw [hW']; exact putU_ownF br own9
  rw [← e9]
  clear e9 hW' g0 g1 g2 g3 g4 g5 g6 g7 f0 f1 f2 f3 f4 f5 f6 f7
  obtain ⟨g0, g1, g2, g3, g4, g5, g6, g7⟩ := b9.cells
  exact bodyPost_ret (v := .tuple #[tupV o (.slice A9 n9 c9), .int .i64 er]) (by unfold tupV; simp [results, Try.results35, go_sem, g0, g1, g2, g3, g4, g5, g6, g7]) rfl ⟨⟨o, er, A9, n9, c9, rfl, .inl ⟨HR5.out, HR.out⟩, hnc9, .inl own10⟩, B9⟩
set_option maxRecDepth 100000 in
set_option maxHeartbeats 16000000 in
theorem deed_1 (D : Dev12) (t : TupP) (d : DeedP) (A : Option Addr) (n c : Nat) (w : World) (hS : Es w w.heap.size A n t.lg) (hnc : n ≤ c) (hM : MayT t) (hd : DeedP.Ok w w.heap.size d) (hdn : d.n ≤ 20) (hr : d.what % 5 = 1) :
    Calls Try.prog 35 #[tupV t (.slice A n c), d.v] w (OutD t d A n c w) := by
  have pr1 : Int.tmod d.what 5 = 1 := by rw [Int.tmod_eq_emod_of_nonneg hd.what.1]; exact hr
  have pr2 : d.what % 5 = 1 := hr
  have HR5 := Lib.hid hr
  clear hr
  have hl := hS.len
  have hfew := hM.few
  have hn2 : n ≤ 200 := by omega
  have hmt : Mid t.sn.ix := mid_of (by have h1 := hM.fine.1; omega)
  have HM := Lib.hid (⟨hmt, hM, hd⟩ : _ ∧ _ ∧ _)
  clear hmt hM hd hl hfew
  obtain ⟨z1, hz1⟩ : ∃ z, z = w.heap.size := ⟨_, rfl⟩
  obtain ⟨w1, hw1⟩ : ∃ x, x = w.alloc (.cells #[.int .i64 t.sn.ix, .int .i64 t.sn.tm, .int .i64 t.sn.sm, .int .i64 t.sn.lv, .bool t.sn.fn, .slice A n c, .int .i64 t.tm, .int .i64 t.vt] 26) := ⟨_, rfl⟩
  have bb : Below w.heap.size w w1 := by rw [hw1]; exact below_al (below_d0 _) _
  have bz : BoxU w1 z1 t (.slice A n c) := by rw [hw1, hz1]; exact BoxU.new w t _
  replace hS := hS.on bb bb.size
  have B1 := bb
  clear bb
  obtain ⟨z2, hz2⟩ : ∃ z, z = w1.heap.size := ⟨_, rfl⟩
  obtain ⟨w2, hw2⟩ : ∃ x, x = w1.alloc (.cells #[.int .u8 d.what, .slice d.A d.n d.c, .int .i64 d.at_, .int .i64 d.s.ix, .int .i64 d.s.tm, .int .i64 d.s.sm, .int .i64 d.s.lv, .bool d.s.fn, .int .i64 d.tm, .int .i64 d.vt] 50) := ⟨_, rfl⟩
  have bb : Below w1.heap.size w1 w2 := by rw [hw2]; exact below_al (below_d0 _) _
  have bd : BoxD w2 z2 d := by rw [hw2, hz2]; exact BoxD.new w1 d
  replace bz := bz.below bb
  replace hS := hS.on bb bb.size
  have B2 := B1.trans (bb.mono B1.size)
  clear bb B1
  obtain ⟨z3, hz3⟩ : ∃ z, z = w2.heap.size := ⟨_, rfl⟩
  obtain ⟨w3, hw3⟩ : ∃ x, x = w2.alloc (.cells #[.int .i64 0, .int .i64 0, .int .i64 0, .int .i64 0, .bool false, .slice none 0 0, .int .i64 0, .int .i64 0] 26) := ⟨_, rfl⟩
  have bb : Below w2.heap.size w2 w3 := by rw [hw3]; exact below_al (below_d0 _) _
  have br : BoxU w3 z3 noneT (.slice none 0 0) := by rw [hw3, hz3]; exact BoxU.new w2 noneT _
  replace bz := bz.below bb
  replace bd := bd.below bb
  replace hS := hS.on bb bb.size
  have B3 := B2.trans (bb.mono B2.size)
  clear bb B2
  have hp2 : z1 + 1 = z2 := by rw [hz2, hw1, hz1]; simp
  have hp3 : z2 + 1 = z3 := by rw [hz3, hw2, hz2]; simp
  have lz2 : w.heap.size ≤ z2 := by omega
  have lz3 : w.heap.size ≤ z3 := by omega
  have ne12 : z1 ≠ z2 := by omega
  have ne13 : z1 ≠ z3 := by omega
  have ne23 : z2 ≠ z3 := by omega
  have HE := Lib.hid (⟨hw1, hw2, hw3, hz1, hp2, hp3⟩ : _ ∧ _ ∧ _ ∧ _ ∧ _ ∧ _)
  have HLZ := Lib.hid (⟨lz2, lz3⟩ : _ ∧ _)
  clear hw1 hz1 hw2 hz2 hw3 hz3 hp2 hp3 lz2 lz3
  skip
  unfold DeedP.v
  unfold tupV
  go_enter Try.func35, Try.ntmps35
  obtain ⟨k0, k1, k2, k3, k4, k5, k6, k7⟩ := bz.cells
  obtain ⟨d0, d1, d2, d3, d4, d5, d6, d7, d8, d9⟩ := bd.cells
  go_wp2_with fail
  clear k0 k1 k2 k3 k4 k5 k6 k7
  clear d0 d1 d2 d3 d4 d5 d6 d7 d8 d9
  rw [← HE.out.1, ← HE.out.2.1, ← HE.out.2.2.1, ← HE.out.2.2.2.1]
  (try rw [HE.out.2.2.2.2.1])
  (try rw [HE.out.2.2.2.2.2])
  clear HE
  have hb5 := B3.size
  refine Calls.mono (show Calls Try.prog 12 #[.agg #[.int .i64 t.sn.ix, .int .i64 t.sn.tm, .int .i64 t.sn.sm, .int .i64 t.sn.lv, .bool t.sn.fn, .slice A n c, .int .i64 t.tm, .int .i64 t.vt], .int .i64 d.at_] w3 (OutF (CutIs t d.at_) w3.heap.size w3) from D.cut t A n c d.at_ w3 hS (by omega) hnc HM.out.1 HM.out.2.2.at_) ?_
  intro e w4 hh
  obtain ⟨⟨o, er, A9, n9, c9, rfl, hR, hnc9, own9⟩, bb⟩ := hh
  (try clear hh)
  replace bz := bz.below bb
  replace bd := bd.below bb
  replace br := br.below bb
  replace hS := hS.on bb bb.size
  have B4 := B3.trans (bb.mono B3.size)
  clear bb B3
  replace own9 := lowF own9 hb5
  clear hb5
  have HR := Lib.hid hR
  clear hR
  unfold tupV
  obtain ⟨g0, g1, g2, g3, g4, g5, g6, g7⟩ := br.cells
  have f0 := br.frozen 0
  have f1 := br.frozen 1
  have f2 := br.frozen 2
  have f3 := br.frozen 3
  have f4 := br.frozen 4
  have f5 := br.frozen 5
  have f6 := br.frozen 6
  have f7 := br.frozen 7
  go_wp2_with fail
  obtain ⟨W', hW'⟩ : ∃ W', W' = putU w4 z3 o (.slice A9 n9 c9) := ⟨_, rfl⟩
  have b9 := putU_box br o (.slice A9 n9 c9)
  have B9 := putU_below HLZ.out.2 o (.slice A9 n9 c9) B4
  rw [← hW'] at b9 B9
  have e9 : W' = ((((((((w4.setCell ⟨z3, 0, none⟩ (.int .i64 o.sn.ix)).setCell ⟨z3, 1, none⟩ (.int .i64 o.sn.tm)).setCell ⟨z3, 2, none⟩ (.int .i64 o.sn.sm)).setCell ⟨z3, 3, none⟩ (.int .i64 o.sn.lv)).setCell ⟨z3, 4, none⟩ (.bool o.sn.fn)).setCell ⟨z3, 5, none⟩ (.slice A9 n9 c9)).setCell ⟨z3, 6, none⟩ (.int .i64 o.tm)).setCell ⟨z3, 7, none⟩ (.int .i64 o.vt)) := hW'
  have own10 : OwnF W' w.heap.size (.slice A9 n9 c9) n9 o.lg := by rw [hW']; exact putU_ownF br own9
  rw [← e9]
  clear e9 hW' g0 g1 g2 g3 g4 g5 g6 g7 f0 f1 f2 f3 f4 f5 f6 f7
  obtain ⟨g0, g1, g2, g3, g4, g5, g6, g7⟩ := b9.cells
  exact bodyPost_ret (v := .tuple #[tupV o (.slice A9 n9 c9), .int .i64 er]) (by unfold tupV; simp [results, Try.results35, go_sem, g0, g1, g2, g3, g4, g5, g6, g7]) rfl ⟨⟨o, er, A9, n9, c9, rfl, .inr (.inl ⟨HR5.out, HR.out⟩), hnc9, .inl own10⟩, B9⟩
set_option maxRecDepth 100000 in
set_option maxHeartbeats 16000000 in
theorem deed_3 (D : Dev12) (t : TupP) (d : DeedP) (A : Option Addr) (n c : Nat) (w : World) (hS : Es w w.heap.size A n t.lg) (hnc : n ≤ c) (hM : MayT t) (hd : DeedP.Ok w w.heap.size d) (hdn : d.n ≤ 20) (hr : d.what % 5 = 3) :
    Calls Try.prog 35 #[tupV t (.slice A n c), d.v] w (OutD t d A n c w) := by
  have pr1 : Int.tmod d.what 5 = 3 := by rw [Int.tmod_eq_emod_of_nonneg hd.what.1]; exact hr
  have pr2 : d.what % 5 = 3 := hr
  have HR5 := Lib.hid hr
  clear hr
  have hl := hS.len
  have hfew := hM.few
  have hn2 : n ≤ 200 := by omega
  have hmt : Mid t.sn.ix := mid_of (by have h1 := hM.fine.1; omega)
  have HM := Lib.hid (⟨hmt, hM, hd⟩ : _ ∧ _ ∧ _)
  clear hmt hM hd hl hfew
  obtain ⟨z1, hz1⟩ : ∃ z, z = w.heap.size := ⟨_, rfl⟩
  obtain ⟨w1, hw1⟩ : ∃ x, x = w.alloc (.cells #[.int .i64 t.sn.ix, .int .i64 t.sn.tm, .int .i64 t.sn.sm, .int .i64 t.sn.lv, .bool t.sn.fn, .slice A n c, .int .i64 t.tm, .int .i64 t.vt] 26) := ⟨_, rfl⟩
  have bb : Below w.heap.size w w1 := by rw [hw1]; exact below_al (below_d0 _) _
  have bz : BoxU w1 z1 t (.slice A n c) := by rw [hw1, hz1]; exact BoxU.new w t _
  replace hS := hS.on bb bb.size
  have B1 := bb
  clear bb
  obtain ⟨z2, hz2⟩ : ∃ z, z = w1.heap.size := ⟨_, rfl⟩
  obtain ⟨w2, hw2⟩ : ∃ x, x = w1.alloc (.cells #[.int .u8 d.what, .slice d.A d.n d.c, .int .i64 d.at_, .int .i64 d.s.ix, .int .i64 d.s.tm, .int .i64 d.s.sm, .int .i64 d.s.lv, .bool d.s.fn, .int .i64 d.tm, .int .i64 d.vt] 50) := ⟨_, rfl⟩
  have bb : Below w1.heap.size w1 w2 := by rw [hw2]; exact below_al (below_d0 _) _
  have bd : BoxD w2 z2 d := by rw [hw2, hz2]; exact BoxD.new w1 d
  replace bz := bz.below bb
  replace hS := hS.on bb bb.size
  have B2 := B1.trans (bb.mono B1.size)
  clear bb B1
  obtain ⟨z3, hz3⟩ : ∃ z, z = w2.heap.size := ⟨_, rfl⟩
  obtain ⟨w3, hw3⟩ : ∃ x, x = w2.alloc (.cells #[.int .i64 0, .int .i64 0, .int .i64 0, .int .i64 0, .bool false, .slice none 0 0, .int .i64 0, .int .i64 0] 26) := ⟨_, rfl⟩
  have bb : Below w2.heap.size w2 w3 := by rw [hw3]; exact below_al (below_d0 _) _
  have br : BoxU w3 z3 noneT (.slice none 0 0) := by rw [hw3, hz3]; exact BoxU.new w2 noneT _
  replace bz := bz.below bb
  replace bd := bd.below bb
  replace hS := hS.on bb bb.size
  have B3 := B2.trans (bb.mono B2.size)
  clear bb B2
  have hp2 : z1 + 1 = z2 := by rw [hz2, hw1, hz1]; simp
  have hp3 : z2 + 1 = z3 := by rw [hz3, hw2, hz2]; simp
  have lz2 : w.heap.size ≤ z2 := by omega
  have lz3 : w.heap.size ≤ z3 := by omega
  have ne12 : z1 ≠ z2 := by omega
  have ne13 : z1 ≠ z3 := by omega
  have ne23 : z2 ≠ z3 := by omega
  have HE := Lib.hid (⟨hw1, hw2, hw3, hz1, hp2, hp3⟩ : _ ∧ _ ∧ _ ∧ _ ∧ _ ∧ _)
  have HLZ := Lib.hid (⟨lz2, lz3⟩ : _ ∧ _)
  clear hw1 hz1 hw2 hz2 hw3 hz3 hp2 hp3 lz2 lz3
  skip
  unfold DeedP.v
  unfold tupV
  go_enter Try.func35, Try.ntmps35
  obtain ⟨k0, k1, k2, k3, k4, k5, k6, k7⟩ := bz.cells
  obtain ⟨d0, d1, d2, d3, d4, d5, d6, d7, d8, d9⟩ := bd.cells
  go_wp2_with fail
  clear k0 k1 k2 k3 k4 k5 k6 k7
  clear d0 d1 d2 d3 d4 d5 d6 d7 d8 d9
  rw [← HE.out.1, ← HE.out.2.1, ← HE.out.2.2.1, ← HE.out.2.2.2.1]
  (try rw [HE.out.2.2.2.2.1])
  (try rw [HE.out.2.2.2.2.2])
  clear HE
  have hb5 := B3.size
  refine Calls.mono (show Calls Try.prog 17 #[.agg #[.int .i64 t.sn.ix, .int .i64 t.sn.tm, .int .i64 t.sn.sm, .int .i64 t.sn.lv, .bool t.sn.fn, .slice A n c, .int .i64 t.tm, .int .i64 t.vt], .agg #[.int .i64 d.s.ix, .int .i64 d.s.tm, .int .i64 d.s.sm, .int .i64 d.s.lv, .bool d.s.fn]] w3 (OutF (InstallIs t d.s) w3.heap.size w3) from D.install t A n c d.s w3 hS (by omega) hnc HM.out.1 HM.out.2.2.ix) ?_
  intro e w4 hh
  obtain ⟨⟨o, er, A9, n9, c9, rfl, hR, hnc9, own9⟩, bb⟩ := hh
  (try clear hh)
  replace bz := bz.below bb
  replace bd := bd.below bb
  replace br := br.below bb
  replace hS := hS.on bb bb.size
  have B4 := B3.trans (bb.mono B3.size)
  clear bb B3
  replace own9 := lowF own9 hb5
  clear hb5
  have HR := Lib.hid hR
  clear hR
  unfold tupV
  obtain ⟨g0, g1, g2, g3, g4, g5, g6, g7⟩ := br.cells
  have f0 := br.frozen 0
  have f1 := br.frozen 1
  have f2 := br.frozen 2
  have f3 := br.frozen 3
  have f4 := br.frozen 4
  have f5 := br.frozen 5
  have f6 := br.frozen 6
  have f7 := br.frozen 7
  go_wp2_with fail
  obtain ⟨W', hW'⟩ : ∃ W', W' = putU w4 z3 o (.slice A9 n9 c9) := ⟨_, rfl⟩
  have b9 := putU_box br o (.slice A9 n9 c9)
  have B9 := putU_below HLZ.out.2 o (.slice A9 n9 c9) B4
  rw [← hW'] at b9 B9
  have e9 : W' = ((((((((w4.setCell ⟨z3, 0, none⟩ (.int .i64 o.sn.ix)).setCell ⟨z3, 1, none⟩ (.int .i64 o.sn.tm)).setCell ⟨z3, 2, none⟩ (.int .i64 o.sn.sm)).setCell ⟨z3, 3, none⟩ (.int .i64 o.sn.lv)).setCell ⟨z3, 4, none⟩ (.bool o.sn.fn)).setCell ⟨z3, 5, none⟩ (.slice A9 n9 c9)).setCell ⟨z3, 6, none⟩ (.int .i64 o.tm)).setCell ⟨z3, 7, none⟩ (.int .i64 o.vt)) := hW'
  have own10 : OwnF W' w.heap.size (.slice A9 n9 c9) n9 o.lg := by rw [hW']; exact putU_ownF br own9
  rw [← e9]
  clear e9 hW' g0 g1 g2 g3 g4 g5 g6 g7 f0 f1 f2 f3 f4 f5 f6 f7
  obtain ⟨g0, g1, g2, g3, g4, g5, g6, g7⟩ := b9.cells
  exact bodyPost_ret (v := .tuple #[tupV o (.slice A9 n9 c9), .int .i64 er]) (by unfold tupV; simp [results, Try.results35, go_sem, g0, g1, g2, g3, g4, g5, g6, g7]) rfl ⟨⟨o, er, A9, n9, c9, rfl, .inr (.inr (.inr (.inr (.inl ⟨HR5.out, HR.out⟩)))), hnc9, .inl own10⟩, B9⟩
set_option maxRecDepth 100000 in
set_option maxHeartbeats 16000000 in
theorem deed_4 (D : Dev12) (t : TupP) (d : DeedP) (A : Option Addr) (n c : Nat) (w : World) (hS : Es w w.heap.size A n t.lg) (hnc : n ≤ c) (hM : MayT t) (hd : DeedP.Ok w w.heap.size d) (hdn : d.n ≤ 20) (hr : d.what % 5 = 4) :
    Calls Try.prog 35 #[tupV t (.slice A n c), d.v] w (OutD t d A n c w) := by
  have pr1 : Int.tmod d.what 5 = 4 := by rw [Int.tmod_eq_emod_of_nonneg hd.what.1]; exact hr
  have pr2 : d.what % 5 = 4 := hr
  have HR5 := Lib.hid hr
  clear hr
  have hl := hS.len
  have hfew := hM.few
  have hn2 : n ≤ 200 := by omega
  have hmt : Mid t.sn.ix := mid_of (by have h1 := hM.fine.1; omega)
  have HM := Lib.hid (⟨hmt, hM, hd⟩ : _ ∧ _ ∧ _)
  clear hmt hM hd hl hfew
  obtain ⟨z1, hz1⟩ : ∃ z, z = w.heap.size := ⟨_, rfl⟩
  obtain ⟨w1, hw1⟩ : ∃ x, x = w.alloc (.cells #[.int .i64 t.sn.ix, .int .i64 t.sn.tm, .int .i64 t.sn.sm, .int .i64 t.sn.lv, .bool t.sn.fn, .slice A n c, .int .i64 t.tm, .int .i64 t.vt] 26) := ⟨_, rfl⟩
  have bb : Below w.heap.size w w1 := by rw [hw1]; exact below_al (below_d0 _) _
  have bz : BoxU w1 z1 t (.slice A n c) := by rw [hw1, hz1]; exact BoxU.new w t _
  replace hS := hS.on bb bb.size
  have B1 := bb
  clear bb
  obtain ⟨z2, hz2⟩ : ∃ z, z = w1.heap.size := ⟨_, rfl⟩
  obtain ⟨w2, hw2⟩ : ∃ x, x = w1.alloc (.cells #[.int .u8 d.what, .slice d.A d.n d.c, .int .i64 d.at_, .int .i64 d.s.ix, .int .i64 d.s.tm, .int .i64 d.s.sm, .int .i64 d.s.lv, .bool d.s.fn, .int .i64 d.tm, .int .i64 d.vt] 50) := ⟨_, rfl⟩
  have bb : Below w1.heap.size w1 w2 := by rw [hw2]; exact below_al (below_d0 _) _
  have bd : BoxD w2 z2 d := by rw [hw2, hz2]; exact BoxD.new w1 d
  replace bz := bz.below bb
  replace hS := hS.on bb bb.size
  have B2 := B1.trans (bb.mono B1.size)
  clear bb B1
  obtain ⟨z3, hz3⟩ : ∃ z, z = w2.heap.size := ⟨_, rfl⟩
  obtain ⟨w3, hw3⟩ : ∃ x, x = w2.alloc (.cells #[.int .i64 0, .int .i64 0, .int .i64 0, .int .i64 0, .bool false, .slice none 0 0, .int .i64 0, .int .i64 0] 26) := ⟨_, rfl⟩
  have bb : Below w2.heap.size w2 w3 := by rw [hw3]; exact below_al (below_d0 _) _
  have br : BoxU w3 z3 noneT (.slice none 0 0) := by rw [hw3, hz3]; exact BoxU.new w2 noneT _
  replace bz := bz.below bb
  replace bd := bd.below bb
  replace hS := hS.on bb bb.size
  have B3 := B2.trans (bb.mono B2.size)
  clear bb B2
  have hp2 : z1 + 1 = z2 := by rw [hz2, hw1, hz1]; simp
  have hp3 : z2 + 1 = z3 := by rw [hz3, hw2, hz2]; simp
  have lz2 : w.heap.size ≤ z2 := by omega
  have lz3 : w.heap.size ≤ z3 := by omega
  have ne12 : z1 ≠ z2 := by omega
  have ne13 : z1 ≠ z3 := by omega
  have ne23 : z2 ≠ z3 := by omega
  have HE := Lib.hid (⟨hw1, hw2, hw3, hz1, hp2, hp3⟩ : _ ∧ _ ∧ _ ∧ _ ∧ _ ∧ _)
  have HLZ := Lib.hid (⟨lz2, lz3⟩ : _ ∧ _)
  clear hw1 hz1 hw2 hz2 hw3 hz3 hp2 hp3 lz2 lz3
  skip
  unfold DeedP.v
  unfold tupV
  go_enter Try.func35, Try.ntmps35
  obtain ⟨k0, k1, k2, k3, k4, k5, k6, k7⟩ := bz.cells
  obtain ⟨d0, d1, d2, d3, d4, d5, d6, d7, d8, d9⟩ := bd.cells
  go_wp2_with fail
  clear k0 k1 k2 k3 k4 k5 k6 k7
  clear d0 d1 d2 d3 d4 d5 d6 d7 d8 d9
  rw [← HE.out.1, ← HE.out.2.1, ← HE.out.2.2.1, ← HE.out.2.2.2.1]
  (try rw [HE.out.2.2.2.2.1])
  (try rw [HE.out.2.2.2.2.2])
  clear HE
  have hb5 := B3.size
  refine Calls.mono (show Calls Try.prog 19 #[.agg #[.int .i64 t.sn.ix, .int .i64 t.sn.tm, .int .i64 t.sn.sm, .int .i64 t.sn.lv, .bool t.sn.fn, .slice A n c, .int .i64 t.tm, .int .i64 t.vt], .int .i64 d.tm, .int .i64 d.vt] w3 (OutF (HardIs t d.tm d.vt) w3.heap.size w3) from D.hard t A n c d.tm d.vt w3 hS (by omega) hnc HM.out.1) ?_
  intro e w4 hh
  obtain ⟨⟨o, er, A9, n9, c9, rfl, hR, hnc9, own9⟩, bb⟩ := hh
  (try clear hh)
  replace bz := bz.below bb
  replace bd := bd.below bb
  replace br := br.below bb
  replace hS := hS.on bb bb.size
  have B4 := B3.trans (bb.mono B3.size)
  clear bb B3
  replace own9 := lowF own9 hb5
  clear hb5
  have HR := Lib.hid hR
  clear hR
  unfold tupV
  obtain ⟨g0, g1, g2, g3, g4, g5, g6, g7⟩ := br.cells
  have f0 := br.frozen 0
  have f1 := br.frozen 1
  have f2 := br.frozen 2
  have f3 := br.frozen 3
  have f4 := br.frozen 4
  have f5 := br.frozen 5
  have f6 := br.frozen 6
  have f7 := br.frozen 7
  go_wp2_with fail
  obtain ⟨W', hW'⟩ : ∃ W', W' = putU w4 z3 o (.slice A9 n9 c9) := ⟨_, rfl⟩
  have b9 := putU_box br o (.slice A9 n9 c9)
  have B9 := putU_below HLZ.out.2 o (.slice A9 n9 c9) B4
  rw [← hW'] at b9 B9
  have e9 : W' = ((((((((w4.setCell ⟨z3, 0, none⟩ (.int .i64 o.sn.ix)).setCell ⟨z3, 1, none⟩ (.int .i64 o.sn.tm)).setCell ⟨z3, 2, none⟩ (.int .i64 o.sn.sm)).setCell ⟨z3, 3, none⟩ (.int .i64 o.sn.lv)).setCell ⟨z3, 4, none⟩ (.bool o.sn.fn)).setCell ⟨z3, 5, none⟩ (.slice A9 n9 c9)).setCell ⟨z3, 6, none⟩ (.int .i64 o.tm)).setCell ⟨z3, 7, none⟩ (.int .i64 o.vt)) := hW'
  have own10 : OwnF W' w.heap.size (.slice A9 n9 c9) n9 o.lg := by rw [hW']; exact putU_ownF br own9
  rw [← e9]
  clear e9 hW' g0 g1 g2 g3 g4 g5 g6 g7 f0 f1 f2 f3 f4 f5 f6 f7
  obtain ⟨g0, g1, g2, g3, g4, g5, g6, g7⟩ := b9.cells
  exact bodyPost_ret (v := .tuple #[tupV o (.slice A9 n9 c9), .int .i64 er]) (by unfold tupV; simp [results, Try.results35, go_sem, g0, g1, g2, g3, g4, g5, g6, g7]) rfl ⟨⟨o, er, A9, n9, c9, rfl, .inr (.inr (.inr (.inr (.inr ⟨HR5.out, HR.out⟩)))), hnc9, .inl own10⟩, B9⟩
set_option maxRecDepth 100000 in
set_option maxHeartbeats 16000000 in
theorem deed_2n (D : Dev12) (t : TupP) (d : DeedP) (A : Option Addr) (n c : Nat) (w : World) (hS : Es w w.heap.size A n t.lg) (hnc : n ≤ c) (hM : MayT t) (hd : DeedP.Ok w w.heap.size d) (hdn : d.n ≤ 20) (hr : d.what % 5 = 2) (hs : stateP t d.at_ = none) :
    Calls Try.prog 35 #[tupV t (.slice A n c), d.v] w (OutD t d A n c w) := by
  have pr1 : Int.tmod d.what 5 = 2 := by rw [Int.tmod_eq_emod_of_nonneg hd.what.1]; exact hr
  have pr2 : d.what % 5 = 2 := hr
  have HR5 := Lib.hid hr
  clear hr
  have HV := Lib.hid (show StateV t d.at_ = .tuple #[.agg #[.int .i64 0, .int .i64 0, .int .i64 0, .int .i64 0, .bool false], .bool false] by unfold StateV; rw [hs]; rfl)
  have HS2 := Lib.hid hs
  clear hs
  have hl := hS.len
  have hfew := hM.few
  have hn2 : n ≤ 200 := by omega
  have hmt : Mid t.sn.ix := mid_of (by have h1 := hM.fine.1; omega)
  have HM := Lib.hid (⟨hmt, hM, hd⟩ : _ ∧ _ ∧ _)
  clear hmt hM hd hl hfew
  obtain ⟨z1, hz1⟩ : ∃ z, z = w.heap.size := ⟨_, rfl⟩
  obtain ⟨w1, hw1⟩ : ∃ x, x = w.alloc (.cells #[.int .i64 t.sn.ix, .int .i64 t.sn.tm, .int .i64 t.sn.sm, .int .i64 t.sn.lv, .bool t.sn.fn, .slice A n c, .int .i64 t.tm, .int .i64 t.vt] 26) := ⟨_, rfl⟩
  have bb : Below w.heap.size w w1 := by rw [hw1]; exact below_al (below_d0 _) _
  have bz : BoxU w1 z1 t (.slice A n c) := by rw [hw1, hz1]; exact BoxU.new w t _
  replace hS := hS.on bb bb.size
  have B1 := bb
  clear bb
  obtain ⟨z2, hz2⟩ : ∃ z, z = w1.heap.size := ⟨_, rfl⟩
  obtain ⟨w2, hw2⟩ : ∃ x, x = w1.alloc (.cells #[.int .u8 d.what, .slice d.A d.n d.c, .int .i64 d.at_, .int .i64 d.s.ix, .int .i64 d.s.tm, .int .i64 d.s.sm, .int .i64 d.s.lv, .bool d.s.fn, .int .i64 d.tm, .int .i64 d.vt] 50) := ⟨_, rfl⟩
  have bb : Below w1.heap.size w1 w2 := by rw [hw2]; exact below_al (below_d0 _) _
  have bd : BoxD w2 z2 d := by rw [hw2, hz2]; exact BoxD.new w1 d
  replace bz := bz.below bb
  replace hS := hS.on bb bb.size
  have B2 := B1.trans (bb.mono B1.size)
  clear bb B1
  obtain ⟨z3, hz3⟩ : ∃ z, z = w2.heap.size := ⟨_, rfl⟩
  obtain ⟨w3, hw3⟩ : ∃ x, x = w2.alloc (.cells #[.int .i64 0, .int .i64 0, .int .i64 0, .int .i64 0, .bool false, .slice none 0 0, .int .i64 0, .int .i64 0] 26) := ⟨_, rfl⟩
  have bb : Below w2.heap.size w2 w3 := by rw [hw3]; exact below_al (below_d0 _) _
  have br : BoxU w3 z3 noneT (.slice none 0 0) := by rw [hw3, hz3]; exact BoxU.new w2 noneT _
  replace bz := bz.below bb
  replace bd := bd.below bb
  replace hS := hS.on bb bb.size
  have B3 := B2.trans (bb.mono B2.size)
  clear bb B2
  have hp2 : z1 + 1 = z2 := by rw [hz2, hw1, hz1]; simp
  have hp3 : z2 + 1 = z3 := by rw [hz3, hw2, hz2]; simp
  have lz2 : w.heap.size ≤ z2 := by omega
  have lz3 : w.heap.size ≤ z3 := by omega
  have ne12 : z1 ≠ z2 := by omega
  have ne13 : z1 ≠ z3 := by omega
  have ne23 : z2 ≠ z3 := by omega
  have HE := Lib.hid (⟨hw1, hw2, hw3, hz1, hp2, hp3⟩ : _ ∧ _ ∧ _ ∧ _ ∧ _ ∧ _)
  have HLZ := Lib.hid (⟨lz2, lz3⟩ : _ ∧ _)
  clear hw1 hz1 hw2 hz2 hw3 hz3 hp2 hp3 lz2 lz3
  skip
  unfold DeedP.v
  unfold tupV
  go_enter Try.func35, Try.ntmps35
  obtain ⟨k0, k1, k2, k3, k4, k5, k6, k7⟩ := bz.cells
  obtain ⟨d0, d1, d2, d3, d4, d5, d6, d7, d8, d9⟩ := bd.cells
  go_wp2_with fail
  clear k0 k1 k2 k3 k4 k5 k6 k7
  clear d0 d1 d2 d3 d4 d5 d6 d7 d8 d9
  rw [← HE.out.1, ← HE.out.2.1, ← HE.out.2.2.1, ← HE.out.2.2.2.1]
  (try rw [HE.out.2.2.2.2.1])
  (try rw [HE.out.2.2.2.2.2])
  clear HE
  have hb5 := B3.size
  refine Calls.mono (show Calls Try.prog 25 #[.agg #[.int .i64 t.sn.ix, .int .i64 t.sn.tm, .int .i64 t.sn.sm, .int .i64 t.sn.lv, .bool t.sn.fn, .slice A n c, .int .i64 t.tm, .int .i64 t.vt], .int .i64 d.at_] w3 (fun e w' => e = .returned (.tuple #[.agg #[.int .i64 0, .int .i64 0, .int .i64 0, .int .i64 0, .bool false], .bool false]) ∧ Below w3.heap.size w3 w') from by rw [← HV.out]; exact D.state t A n c d.at_ w3 hS (by omega) hnc HM.out.1 HM.out.2.2.at_) ?_
  intro e w4 hh
  obtain ⟨rfl, bb⟩ := hh
  (try clear hh)
  replace bz := bz.below bb
  replace bd := bd.below bb
  replace br := br.below bb
  replace hS := hS.on bb bb.size
  have B4 := B3.trans (bb.mono B3.size)
  clear bb B3
  obtain ⟨z5, hz5⟩ : ∃ z, z = w4.heap.size := ⟨_, rfl⟩
  obtain ⟨w5, hw5⟩ : ∃ x, x = w4.alloc (.cells #[.int .i64 0, .int .i64 0, .int .i64 0, .int .i64 0, .bool false] 23) := ⟨_, rfl⟩
  have bb : Below w4.heap.size w4 w5 := by rw [hw5]; exact below_al (below_d0 _) _
  have bs : BoxS w5 z5 noneS := by rw [hw5, hz5]; exact BoxS.new w4 noneS
  replace bz := bz.below bb
  replace bd := bd.below bb
  replace br := br.below bb
  replace hS := hS.on bb bb.size
  have B5 := B4.trans (bb.mono B4.size)
  clear bb B4
  have HE5 := Lib.hid (⟨hw5, hz5⟩ : _ ∧ _)
  clear hw5 hz5
  go_upto_region 8 with fail
  rw [← HE5.out.1, ← HE5.out.2]
  clear HE5
  obtain ⟨k0, k1, k2, k3, k4, k5, k6, k7⟩ := bz.cells
  obtain ⟨d0, d1, d2, d3, d4, d5, d6, d7, d8, d9⟩ := bd.cells
  skip
  obtain ⟨g0, g1, g2, g3, g4, g5, g6, g7⟩ := br.cells
  have f0 := br.frozen 0
  have f1 := br.frozen 1
  have f2 := br.frozen 2
  have f3 := br.frozen 3
  have f4 := br.frozen 4
  have f5 := br.frozen 5
  have f6 := br.frozen 6
  have f7 := br.frozen 7
  go_wp2_with fail
  obtain ⟨W', hW'⟩ : ∃ W', W' = putU w5 z3 t (.slice A n c) := ⟨_, rfl⟩
  have b9 := putU_box br t (.slice A n c)
  have B9 := putU_below HLZ.out.2 t (.slice A n c) B5
  rw [← hW'] at b9 B9
  have e9 : W' = ((((((((w5.setCell ⟨z3, 0, none⟩ (.int .i64 t.sn.ix)).setCell ⟨z3, 1, none⟩ (.int .i64 t.sn.tm)).setCell ⟨z3, 2, none⟩ (.int .i64 t.sn.sm)).setCell ⟨z3, 3, none⟩ (.int .i64 t.sn.lv)).setCell ⟨z3, 4, none⟩ (.bool t.sn.fn)).setCell ⟨z3, 5, none⟩ (.slice A n c)).setCell ⟨z3, 6, none⟩ (.int .i64 t.tm)).setCell ⟨z3, 7, none⟩ (.int .i64 t.vt)) := hW'
  rw [← e9]
  clear e9 hW' g0 g1 g2 g3 g4 g5 g6 g7 f0 f1 f2 f3 f4 f5 f6 f7
  obtain ⟨g0, g1, g2, g3, g4, g5, g6, g7⟩ := b9.cells
  exact bodyPost_ret (v := .tuple #[tupV t (.slice A n c), .int .i64 2]) (by unfold tupV; simp [results, Try.results35, go_sem, g0, g1, g2, g3, g4, g5, g6, g7]) rfl ⟨⟨t, 2, A, n, c, rfl, .inr (.inr (.inl ⟨HR5.out, HS2.out, rfl, rfl⟩)), hnc, .inr ⟨rfl, rfl, rfl, rfl⟩⟩, B9⟩
set_option maxRecDepth 100000 in
set_option maxHeartbeats 16000000 in
theorem deed_2s (D : Dev12) (t : TupP) (d : DeedP) (A : Option Addr) (n c : Nat) (w : World) (hS : Es w w.heap.size A n t.lg) (hnc : n ≤ c) (hM : MayT t) (hd : DeedP.Ok w w.heap.size d) (hdn : d.n ≤ 20) (hr : d.what % 5 = 2) {s : StP} (hs : stateP t d.at_ = some s) :
    Calls Try.prog 35 #[tupV t (.slice A n c), d.v] w (OutD t d A n c w) := by
  have pr1 : Int.tmod d.what 5 = 2 := by rw [Int.tmod_eq_emod_of_nonneg hd.what.1]; exact hr
  have pr2 : d.what % 5 = 2 := hr
  have HR5 := Lib.hid hr
  clear hr
  have HV := Lib.hid (show StateV t d.at_ = .tuple #[.agg #[.int .i64 s.ix, .int .i64 s.tm, .int .i64 s.sm, .int .i64 s.lv, .bool s.fn], .bool true] by unfold StateV; rw [hs]; rfl)
  have HS2 := Lib.hid hs
  have hs2 : I64 s.ix := by
    have h2 := hs
    unfold stateP at h2
    split at h2
    · cases h2
    · obtain rfl := Option.some.inj h2
      have h3 := (all_fine (t.lg.take (d.at_ - t.sn.ix).toNat) hM.fine).1
      unfold I64
      omega
  have HX := Lib.hid hs2
  clear hs2
  clear hs
  have hl := hS.len
  have hfew := hM.few
  have hn2 : n ≤ 200 := by omega
  have hmt : Mid t.sn.ix := mid_of (by have h1 := hM.fine.1; omega)
  have HM := Lib.hid (⟨hmt, hM, hd⟩ : _ ∧ _ ∧ _)
  clear hmt hM hd hl hfew
  obtain ⟨z1, hz1⟩ : ∃ z, z = w.heap.size := ⟨_, rfl⟩
  obtain ⟨w1, hw1⟩ : ∃ x, x = w.alloc (.cells #[.int .i64 t.sn.ix, .int .i64 t.sn.tm, .int .i64 t.sn.sm, .int .i64 t.sn.lv, .bool t.sn.fn, .slice A n c, .int .i64 t.tm, .int .i64 t.vt] 26) := ⟨_, rfl⟩
  have bb : Below w.heap.size w w1 := by rw [hw1]; exact below_al (below_d0 _) _
  have bz : BoxU w1 z1 t (.slice A n c) := by rw [hw1, hz1]; exact BoxU.new w t _
  replace hS := hS.on bb bb.size
  have B1 := bb
  clear bb
  obtain ⟨z2, hz2⟩ : ∃ z, z = w1.heap.size := ⟨_, rfl⟩
  obtain ⟨w2, hw2⟩ : ∃ x, x = w1.alloc (.cells #[.int .u8 d.what, .slice d.A d.n d.c, .int .i64 d.at_, .int .i64 d.s.ix, .int .i64 d.s.tm, .int .i64 d.s.sm, .int .i64 d.s.lv, .bool d.s.fn, .int .i64 d.tm, .int .i64 d.vt] 50) := ⟨_, rfl⟩
  have bb : Below w1.heap.size w1 w2 := by rw [hw2]; exact below_al (below_d0 _) _
  have bd : BoxD w2 z2 d := by rw [hw2, hz2]; exact BoxD.new w1 d
  replace bz := bz.below bb
  replace hS := hS.on bb bb.size
  have B2 := B1.trans (bb.mono B1.size)
  clear bb B1
  obtain ⟨z3, hz3⟩ : ∃ z, z = w2.heap.size := ⟨_, rfl⟩
  obtain ⟨w3, hw3⟩ : ∃ x, x = w2.alloc (.cells #[.int .i64 0, .int .i64 0, .int .i64 0, .int .i64 0, .bool false, .slice none 0 0, .int .i64 0, .int .i64 0] 26) := ⟨_, rfl⟩
  have bb : Below w2.heap.size w2 w3 := by rw [hw3]; exact below_al (below_d0 _) _
  have br : BoxU w3 z3 noneT (.slice none 0 0) := by rw [hw3, hz3]; exact BoxU.new w2 noneT _
  replace bz := bz.below bb
  replace bd := bd.below bb
  replace hS := hS.on bb bb.size
  have B3 := B2.trans (bb.mono B2.size)
  clear bb B2
  have hp2 : z1 + 1 = z2 := by rw [hz2, hw1, hz1]; simp
  have hp3 : z2 + 1 = z3 := by rw [hz3, hw2, hz2]; simp
  have lz2 : w.heap.size ≤ z2 := by omega
  have lz3 : w.heap.size ≤ z3 := by omega
  have ne12 : z1 ≠ z2 := by omega
  have ne13 : z1 ≠ z3 := by omega
  have ne23 : z2 ≠ z3 := by omega
  have HE := Lib.hid (⟨hw1, hw2, hw3, hz1, hp2, hp3⟩ : _ ∧ _ ∧ _ ∧ _ ∧ _ ∧ _)
  have HLZ := Lib.hid (⟨lz2, lz3⟩ : _ ∧ _)
  clear hw1 hz1 hw2 hz2 hw3 hz3 hp2 hp3 lz2 lz3
  skip
  unfold DeedP.v
  unfold tupV
  go_enter Try.func35, Try.ntmps35
  obtain ⟨k0, k1, k2, k3, k4, k5, k6, k7⟩ := bz.cells
  obtain ⟨d0, d1, d2, d3, d4, d5, d6, d7, d8, d9⟩ := bd.cells
  go_wp2_with fail
  clear k0 k1 k2 k3 k4 k5 k6 k7
  clear d0 d1 d2 d3 d4 d5 d6 d7 d8 d9
  rw [← HE.out.1, ← HE.out.2.1, ← HE.out.2.2.1, ← HE.out.2.2.2.1]
  (try rw [HE.out.2.2.2.2.1])
  (try rw [HE.out.2.2.2.2.2])
  clear HE
  have hb5 := B3.size
  refine Calls.mono (show Calls Try.prog 25 #[.agg #[.int .i64 t.sn.ix, .int .i64 t.sn.tm, .int .i64 t.sn.sm, .int .i64 t.sn.lv, .bool t.sn.fn, .slice A n c, .int .i64 t.tm, .int .i64 t.vt], .int .i64 d.at_] w3 (fun e w' => e = .returned (.tuple #[.agg #[.int .i64 s.ix, .int .i64 s.tm, .int .i64 s.sm, .int .i64 s.lv, .bool s.fn], .bool true]) ∧ Below w3.heap.size w3 w') from by rw [← HV.out]; exact D.state t A n c d.at_ w3 hS (by omega) hnc HM.out.1 HM.out.2.2.at_) ?_
  intro e w4 hh
  obtain ⟨rfl, bb⟩ := hh
  (try clear hh)
  replace bz := bz.below bb
  replace bd := bd.below bb
  replace br := br.below bb
  replace hS := hS.on bb bb.size
  have B4 := B3.trans (bb.mono B3.size)
  clear bb B3
  obtain ⟨z5, hz5⟩ : ∃ z, z = w4.heap.size := ⟨_, rfl⟩
  obtain ⟨w5, hw5⟩ : ∃ x, x = w4.alloc (.cells #[.int .i64 s.ix, .int .i64 s.tm, .int .i64 s.sm, .int .i64 s.lv, .bool s.fn] 23) := ⟨_, rfl⟩
  have bb : Below w4.heap.size w4 w5 := by rw [hw5]; exact below_al (below_d0 _) _
  have bs : BoxS w5 z5 s := by rw [hw5, hz5]; exact BoxS.new w4 s
  replace bz := bz.below bb
  replace bd := bd.below bb
  replace br := br.below bb
  replace hS := hS.on bb bb.size
  have B5 := B4.trans (bb.mono B4.size)
  clear bb B4
  have HE5 := Lib.hid (⟨hw5, hz5⟩ : _ ∧ _)
  clear hw5 hz5
  go_upto_region 8 with fail
  rw [← HE5.out.1, ← HE5.out.2]
  clear HE5
  obtain ⟨k0, k1, k2, k3, k4, k5, k6, k7⟩ := bz.cells
  obtain ⟨d0, d1, d2, d3, d4, d5, d6, d7, d8, d9⟩ := bd.cells
  obtain ⟨x0, x1, x2, x3, x4⟩ := bs.cells
  go_wp2_with fail
  clear k0 k1 k2 k3 k4 k5 k6 k7
  clear d0 d1 d2 d3 d4 d5 d6 d7 d8 d9
  clear x0 x1 x2 x3 x4
  have hb6 := B5.size
  refine Calls.mono (show Calls Try.prog 15 #[.agg #[.int .i64 t.sn.ix, .int .i64 t.sn.tm, .int .i64 t.sn.sm, .int .i64 t.sn.lv, .bool t.sn.fn, .slice A n c, .int .i64 t.tm, .int .i64 t.vt], .agg #[.int .i64 s.ix, .int .i64 s.tm, .int .i64 s.sm, .int .i64 s.lv, .bool s.fn]] w5 (OutF (SaveIs t s) w5.heap.size w5) from D.save t A n c s w5 hS (by omega) hnc HM.out.1 HX.out) ?_
  intro e w6 hh
  obtain ⟨⟨o, er, A9, n9, c9, rfl, hR, hnc9, own9⟩, bb⟩ := hh
  (try clear hh)
  replace bz := bz.below bb
  replace bd := bd.below bb
  replace br := br.below bb
  replace bs := bs.below bb
  replace hS := hS.on bb bb.size
  have B6 := B5.trans (bb.mono B5.size)
  clear bb B5
  replace own9 := lowF own9 hb6
  clear hb5 hb6
  have HR := Lib.hid hR
  clear hR
  unfold tupV
  obtain ⟨g0, g1, g2, g3, g4, g5, g6, g7⟩ := br.cells
  have f0 := br.frozen 0
  have f1 := br.frozen 1
  have f2 := br.frozen 2
  have f3 := br.frozen 3
  have f4 := br.frozen 4
  have f5 := br.frozen 5
  have f6 := br.frozen 6
  have f7 := br.frozen 7
  go_wp2_with fail
  obtain ⟨W', hW'⟩ : ∃ W', W' = putU w6 z3 o (.slice A9 n9 c9) := ⟨_, rfl⟩
  have b9 := putU_box br o (.slice A9 n9 c9)
  have B9 := putU_below HLZ.out.2 o (.slice A9 n9 c9) B6
  rw [← hW'] at b9 B9
  have e9 : W' = ((((((((w6.setCell ⟨z3, 0, none⟩ (.int .i64 o.sn.ix)).setCell ⟨z3, 1, none⟩ (.int .i64 o.sn.tm)).setCell ⟨z3, 2, none⟩ (.int .i64 o.sn.sm)).setCell ⟨z3, 3, none⟩ (.int .i64 o.sn.lv)).setCell ⟨z3, 4, none⟩ (.bool o.sn.fn)).setCell ⟨z3, 5, none⟩ (.slice A9 n9 c9)).setCell ⟨z3, 6, none⟩ (.int .i64 o.tm)).setCell ⟨z3, 7, none⟩ (.int .i64 o.vt)) := hW'
  have own10 : OwnF W' w.heap.size (.slice A9 n9 c9) n9 o.lg := by rw [hW']; exact putU_ownF br own9
  rw [← e9]
  clear e9 hW' g0 g1 g2 g3 g4 g5 g6 g7 f0 f1 f2 f3 f4 f5 f6 f7
  obtain ⟨g0, g1, g2, g3, g4, g5, g6, g7⟩ := b9.cells
  exact bodyPost_ret (v := .tuple #[tupV o (.slice A9 n9 c9), .int .i64 er]) (by unfold tupV; simp [results, Try.results35, go_sem, g0, g1, g2, g3, g4, g5, g6, g7]) rfl ⟨⟨o, er, A9, n9, c9, rfl, .inr (.inr (.inr (.inl ⟨HR5.out, s, HS2.out, HR.out⟩))), hnc9, .inl own10⟩, B9⟩
theorem does_any (D : Dev12) (t : TupP) (d : DeedP) (A : Option Addr) (n c : Nat) (w : World) (hS : Es w w.heap.size A n t.lg) (hnc : n ≤ c) (hM : MayT t) (hd : DeedP.Ok w w.heap.size d) (hdn : d.n ≤ 20) :
    Calls Try.prog 35 #[tupV t (.slice A n c), d.v] w (OutD t d A n c w) := by
  have hw := hd.what
  have h5 : d.what % 5 = 0 ∨ d.what % 5 = 1 ∨ d.what % 5 = 2 ∨ d.what % 5 = 3 ∨ d.what % 5 = 4 := by omega
  rcases h5 with h | h | h | h | h
  · exact deed_0 D t d A n c w hS hnc hM hd hdn h
  · exact deed_1 D t d A n c w hS hnc hM hd hdn h
  · cases hs : stateP t d.at_ with
    | none => exact deed_2n D t d A n c w hS hnc hM hd hdn h hs
    | some s => exact deed_2s D t d A n c w hS hnc hM hd hdn h hs
  · exact deed_3 D t d A n c w hS hnc hM hd hdn h
  · exact deed_4 D t d A n c w hS hnc hM hd hdn h
end Go.Proofs.Ytbhnlmlaebngmaa
