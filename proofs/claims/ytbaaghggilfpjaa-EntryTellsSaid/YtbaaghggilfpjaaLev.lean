/-
  entry.Levels: its contract.
-/
import Derived.Test.YtbaaghggilfpjaaAll
import Derived.Maps.AppendAt
import Derived.Laws.MakeOwn
namespace Go.Proofs.Ytbaaghggilfpjaa
open Go.RowKit Go.Maps Go.Shelf

attribute [local go_sem] Oper.semAt_some

theorem own_below {w w' : World} {base : Nat} {e : TypeId} {size : Nat} {v : Value} {n : Nat} {xs : List Value} (h : w.ownsRow base e size v n xs) (hb : Below w.heap.size w w') : w'.ownsRow base e size v n xs :=
  h.kept (row := none) (grown_of hb) (by
    cases hv : v.ownBlock with
    | none => exact .inl rfl
    | some g => exact .inr (by simp))
theorem own_marks {w w' : World} {B base : Nat} {e : TypeId} {size : Nat} {v : Value} {n : Nat} {xs : List Value} (h : w.ownsRow base e size v n xs) (hb : CellsKept B w w') : w'.ownsRow base e size v n xs := by
  refine ⟨h.1, ?_⟩
  rcases h.2 with a | ⟨g, cap, cur, e1, hbg, hh, r⟩
  · exact .inl a
  · exact .inr ⟨g, cap, cur, e1, hbg, hb.2 g _ hh rfl, r⟩
theorem info_int : (Try.prog.info? 3).map (fun i => (i.zero, i.size, i.bytes)) = some (some (.int .i64 0), 1, 8) := by kernel_rfl
def lvV (s : StP) : Value := .int .i64 s.lv
/-- Between two rounds: the box b holds a row of the call's own of the levels of what has come. -/
structure LInv (w : World) (b D : Nat) (pre : List StP) (W : World) : Prop where
  row : ∃ v, Boxed W b 35 v ∧ W.ownsRow w.heap.size 3 1 v pre.length (pre.map lvV)
  low : Below w.heap.size w W
  size : D ≤ W.heap.size
theorem row_ne {W : World} {base : Nat} {v : Value} {k : Nat} {xs : List Value} (h : W.ownsRow base 3 1 v k xs) {row : Option Nat} (hr : ∀ r, row = some r → ∃ o : Obj, W.heap[r]? = some o ∧ (o.isCells = false ∨ ∃ cur fr, o = .cells cur 23 fr)) : v.ownBlock = none ∨ v.ownBlock ≠ row := by
  rcases h.2 with ⟨rfl, _⟩ | ⟨g, cap, cur, rfl, _, hg, _⟩
  · exact .inl rfl
  · refine .inr fun e => ?_
    obtain ⟨o, ho, h1⟩ := hr g e.symm
    rw [hg] at ho
    cases ho
    rcases h1 with h1 | ⟨_, _, h1⟩ <;> cases h1
theorem LInv.own {w : World} {b D : Nat} (hb : b < D) (hw : w.heap.size ≤ D) : OwnT 23 D (LInv w b D) := fun s W W' row h hg hr => by
  obtain ⟨⟨v, hv, hrow⟩, hlow, hsz⟩ := h
  refine ⟨⟨v, (hg.block b hv.lt (fun e => by have := (hr b e.symm).1; omega)).trans hv, hrow.kept hg (row_ne hrow fun r e => (hr r e).2)⟩, ?_, Nat.le_trans hsz hg.size⟩
  exact hlow.grown hg hlow.size (fun k e => by have := (hr k e).1; omega)
/-- What an append and its store leave alone. -/
theorem KpE.app {B0 b : Nat} {W w1 : World} {v v' : Value} {k : Nat} {xs : List Value} {tmp : Obj} (hv : Boxed W b 35 v) (hrow : W.ownsRow B0 3 1 v k xs) (hg : (W.alloc tmp).grownBy w1 v.ownBlock)
    (hko : KeepsOthers W (w1.setCell ⟨b, 0, none⟩ v')) (hbl : Below B0 W (w1.setCell ⟨b, 0, none⟩ v')) : KpE B0 b W (w1.setCell ⟨b, 0, none⟩ v') := by
  refine ⟨hbl.block, fun k o hk ho => hko.same k o hk (Obj.not_cells_of_walk ho), fun k cur t fr hne hk ht => ?_⟩
  have hlt := (Array.getElem?_eq_some_iff.1 hk).1
  have h1 : (W.alloc tmp).heap[k]? = some (.cells cur t fr) := (Below.heap_alloc W tmp k hlt).trans hk
  refine (Below.heap_setCell _ _ _ k (by simpa using hne)).trans ((hg.block k (by simp; omega) (fun e => ?_)).trans h1)
  rcases hrow.2 with ⟨rfl, _⟩ | ⟨g, cap, cur', rfl, _, hgb, _⟩
  · cases e
  · obtain rfl : k = g := by simpa [Value.ownBlock] using e
    rw [hk] at hgb
    cases hgb
    rcases ht with h | h <;> cases h

/-- What Levels answers: a row of the call's own. -/
def LevOut (w : World) (l : List Int) (e : Ending) (w' : World) : Prop := (∃ A n c, e = .returned (.slice A n c) ∧ n ≤ c ∧ n = l.length ∧ Rd w' w'.heap.size .i64 A n l) ∧ Below w.heap.size w w'
theorem levels_states (s : StP) (l : List EnP) : (statesP s l).map lvV = (levelsP s l).map (Value.int .i64) := by
  unfold statesP levelsP lvV
  rw [List.map_map, List.map_map]
  rfl

set_option maxRecDepth 100000 in
set_option maxHeartbeats 2000000 in
theorem levels_in (s : StP) (A : Option Addr) (n c : Nat) (l : List EnP) (w : World) (hl : Es w w.heap.size A n l) (hn : n ≤ 1000) :
    CallsIn Fence.wide 4 Try.prog 22 #[s.v, .slice A n c] w (LevOut w (levelsP s l)) := by
  obtain ⟨i0, hi, hz0, hz1, hz2⟩ := info_parts info_int
  have Hl := Lib.hid hl
  have Hll := Lib.hid hl.len
  clear hl
  unfold StP.v
  obtain ⟨z, hz⟩ : ∃ z, z = w.heap.size := ⟨_, rfl⟩
  obtain ⟨wa, hwa⟩ : ∃ wa, wa = w.alloc (.cells #[.int .i64 s.ix, .int .i64 s.tm, .int .i64 s.sm, .int .i64 s.lv, .bool s.fn] 23) := ⟨_, rfl⟩
  have hsa : wa.heap.size = z + 1 := by rw [hwa, hz]; simp
  have hBa : Below w.heap.size w wa := by rw [hwa]; exact (Below.refl _ _).alloc (Nat.le_refl _) _
  have ba : BoxS wa z s := by rw [hwa, hz]; exact BoxS.new w s
  obtain ⟨wb, hrun, hown, hgr⟩ := run_make_own (P := Try.prog) wa w.heap.size 35 3 i0 (.int .i64 0) 1 Try.underlying35 hi hz0 hz1 .i64 .i64 n (by rw [hz2]; omega) (by unfold maxLen; omega) hBa.size
  obtain ⟨G, hG⟩ : ∃ G, G = wa.heap.size := ⟨_, rfl⟩
  rw [← hG] at hrun hown
  have hbb : Below wa.heap.size wa wb := ⟨hgr.os, hgr.tape, hgr.output, hgr.size, fun k hk => hgr.block k hk (by simp)⟩
  obtain ⟨b, hb⟩ : ∃ b, b = wb.heap.size := ⟨_, rfl⟩
  obtain ⟨w1, hw1⟩ : ∃ w1, w1 = wb.alloc (.cells #[.slice (some ⟨G, 0, none⟩) 0 n] 35) := ⟨_, rfl⟩
  have hb1 : Below wb.heap.size wb w1 := by rw [hw1]; exact (Below.refl _ _).alloc (Nat.le_refl _) _
  have hs1 : w1.heap.size = b + 1 := by rw [hw1, hb]; simp
  have bs1 : BoxS w1 z s := (ba.below hbb).below hb1
  have bl1 : Boxed w1 b 35 (.slice (some ⟨G, 0, none⟩) 0 n) := by rw [hw1, hb]; exact Boxed.new _ _ _
  have ho1 : w1.ownsRow w.heap.size 3 1 (.slice (some ⟨G, 0, none⟩) 0 n) 0 [] := by rw [hw1]; exact hown.alloc _
  have hB1 : Below w.heap.size w w1 := (hBa.trans (hbb.mono hBa.size)).trans (hb1.mono (Nat.le_trans hBa.size hbb.size))
  have hk := bs1.cells
  rw [hw1, hz] at hk
  obtain ⟨k0, k1, k2, k3, k4⟩ := hk
  have Hw1 := Lib.hid hw1
  have Hd1 := Lib.hid (show w.heap.size ≤ z ∧ z < b ∧ w.heap.size ≤ b ∧ w1.heap.size = b + 1 by have := hbb.size; omega)
  have H1 := Lib.hid (⟨bs1, bl1, ho1, hB1⟩ : _ ∧ _ ∧ _ ∧ _)
  rw [hwa] at hrun
  have Hz := Lib.hid (⟨hz, hwa, hb⟩ : _ ∧ _ ∧ _)
  clear hz hwa hb hgr hown hbb hBa ba hG hsa hw1 hb1 hs1 bs1 bl1 ho1 hB1
  refine callsIn_of_wp_marks Try.func22 rfl trivial ?_ rfl
  simp only [Try.ntmps22, List.size_toArray, List.length_cons, List.length_nil, Nat.reduceAdd, Nat.reduceSub, Array.replicate_succ, Array.replicate_zero, List.push_toArray, List.append_toArray, List.nil_append, List.cons_append]
  gi_wp2_with fail
  refine ⟨trivial, ?_⟩
  rw [← Hw1.out, ← Hz.out.1, ← Hz.out.2.2]
  clear Hw1 k0 k1 k2 k3 k4 hrun
  refine (callsIn_wide.2 (states_any s A n c w1)).mono ?_
  rintro e w2 ⟨rfl, hs2, hl2, hsz2, hb2⟩
  obtain ⟨sB, hsB⟩ : ∃ sB, sB = w1.heap.size := ⟨_, rfl⟩
  rw [← hsB] at hs2 hl2 ⊢
  obtain ⟨bs1, bl1, ho1, hB1⟩ := H1.out
  have hB2 : Below w.heap.size w w2 := hB1.trans (hb2.mono hB1.size)
  have h0 : LInv w b w2.heap.size [] w2 := ⟨⟨_, (hb2.block b bl1.lt).trans bl1, own_below ho1 hb2⟩, hB2, Nat.le_refl _⟩
  have Hd := Lib.hid (show w.heap.size ≤ z ∧ z < b ∧ sB = b + 1 ∧ w2.heap.size = b + 3 by have := Hd1.out; omega)
  have H0 := Lib.hid (⟨h0, hs2, hl2, Hl.out.low (w' := w2) (fun k hk => h0.low.block k hk)⟩ : _ ∧ _ ∧ _ ∧ _)
  clear h0 hs2 hl2 hb2 bs1 bl1 ho1 hB1 hsz2 hsB H1 Hd1 hB2
  gi_wp2_with fail
  refine range_T 23 rfl (by decide) (gf := 34) (lb := #[.pointer (some ⟨sB, 0, none⟩), .pointer (some ⟨sB + 1, 0, none⟩)]) rfl trivial (enters_of Try.func34 (by kernel_rfl) rfl)
    (states_stops sB (sB + 1) b w.heap.size (by omega) w2 H0.out.2.1 H0.out.2.2.1 H0.out.2.2.2 (by have := Hd.out; omega) (by have := Hd.out; omega) (by have := Hd.out; omega)) (fun h h' => h.trans h') (KpE.put (by have := Hd.out; omega)) (Below.refl _ _) (fun _ => rfl)
    (LInv w b w2.heap.size) (fun _ _ _ => False) (LInv.own (by have := Hd.out; omega) (by have := Hd.out; omega))
    (fun _ _ _ _ _ h _ _ => h) H0.out.1
    (AVar w2.heap.size fun bx d => { tmps := #[.agg #[.int .i64 s.ix, .int .i64 s.tm, .int .i64 s.sm, .int .i64 s.lv, .bool s.fn], .slice A n c, .pointer (some ⟨z, 0, none⟩), undef, .slice none 0 0, .pointer (some ⟨b, 0, none⟩), .pointer (some ⟨bx, 0, none⟩), .slice A n c, .int .i64 n, .slice (some ⟨G, 0, none⟩) 0 n, .agg #[.int .i64 s.ix, .int .i64 s.tm, .int .i64 s.sm, .int .i64 s.lv, .bool s.fn], .slice A n c, .func (.func 34) #[] #[.pointer (some ⟨sB, 0, none⟩), .pointer (some ⟨sB + 1, 0, none⟩)], .agg #[.int .i64 d.ix, .int .i64 d.tm, .int .i64 d.sm, .int .i64 d.lv, .bool d.fn], undef, undef, undef, undef, undef, undef], defers := [] })
    AVar.put ?assign ?body ?done ?stop
  case assign =>
    intro lp pre d W hI hlen
    gi_wp2
    have hb := (Below.refl W.heap.size W).alloc (Nat.le_refl _) (.cells #[.int .i64 d.ix, .int .i64 d.tm, .int .i64 d.sm, .int .i64 d.lv, .bool d.fn] 23)
    have hsz := hI.size
    have hd := Hd.out
    obtain ⟨v, hv, hrow⟩ := hI.row
    exact ⟨(KeepsOthers.alloc _ _).from _, KpE.below hb (by omega), ⟨⟨v, hv.alloc _, hrow.alloc _⟩, hI.low.trans (hb.mono (by omega)), by have := hb.size; omega⟩, W.heap.size, BoxS.new W d, hsz, rfl⟩
  case body =>
    rintro lp pre d a' W ⟨⟨v, hv, hrow⟩, hB, hsz⟩ ⟨bx, hbx, hDx, rfl⟩ hlen
    obtain ⟨k0, k1, k2, k3, k4⟩ := hbx.cells
    have hc := hv.cell
    have Hx := Lib.hid (⟨hbx, hsz, hDx⟩ : _ ∧ _ ∧ _)
    have Hl2 := Lib.hid (show pre.length + 1 ≤ 1000 by have := Hll.out; omega)
    clear hbx hsz hDx
    gi_wp2_with (gi_at_builtin; refine wpListIn_append_own _ rfl _ _ 35 rfl w.heap.size 3 i0 (.int .i64 0) 1 8 Try.underlying35 hi hz0 hz1 hz2 rfl (by decide) _ _ _ rfl (hrow.alloc _) ⟨W.heap.size, 0, none⟩ 1 1 [.int .i64 d.lv] rfl rfl (cell_one_new _ _ _) (by simp [Value.oneCell']) (by have := Hl2.out; unfold maxLen; omega) (by have := Hl2.out; omega) (by have := hB.size; simp; omega) ?_; intro v' w1 hown' hgrow _; obtain ⟨g', cap', rfl⟩ := ownsRow_succ hown'; obtain ⟨hv1, hv2, hr2, hk2, hb2⟩ := hv.appended (by decide) hrow hB.size (by have := Hd.out; omega) hown' hgrow; have hc1 := hv1.cell; have hf1 := hv1.frozen)
    refine ⟨hk2.from _, KpE.app hv hrow hgrow hk2 hb2, ⟨⟨_, hv2, by simpa [lvV] using hr2⟩, hB.trans hb2, Nat.le_trans Hx.out.2.1 hk2.size⟩⟩
  case done =>
    rintro D ys W hD2 rfl ⟨⟨v, hv, hrow⟩, hB, hsz⟩ hK
    have hc := hv.cell
    rw [states_len, Hll.out, levels_states] at hrow
    obtain ⟨A', c', rfl, hc', hrd⟩ := own_rd hrow
    have HR := Lib.hid (⟨hc', hrow, hB⟩ : _ ∧ _ ∧ _)
    clear hrd hB hsz hrow hv hc'
    gi_wp2_with fail
    obtain ⟨hc', hrow, hB⟩ := HR.out
    refine leaves_marks (B := w.heap.size) [D] _ ⟨by simp, fun d hd => ?_⟩ fun w' hw' => ⟨_, results_tmp rfl _ _ _, ⟨A', n, c', rfl, hc', by rw [levels_len, Hll.out], ?_⟩, hB.trans hw'.1⟩
    · obtain rfl : d = D := by simpa using hd
      have hd := Hd.out
      exact ⟨by omega, hK⟩
    · exact Rd.of_own (own_marks hrow hw')
  case stop =>
    rintro D cc pre W _ h _
    exact h.elim

theorem levels_any (s : StP) (A : Option Addr) (n c : Nat) (l : List EnP) (w : World) (hl : Es w w.heap.size A n l) (hn : n ≤ 1000) :
    Calls Try.prog 22 #[s.v, .slice A n c] w (LevOut w (levelsP s l)) := callsIn_wide.1 (levels_in s A n c l w hl hn)

end Go.Proofs.Ytbaaghggilfpjaa
