/-
  entry.states, entry.All: their contracts.
-/
import Derived.Test.YtbaaghggilfpjaaIt
namespace Go.Proofs.Ytbaaghggilfpjaa
open Go.RowKit Go.Maps Go.Shelf

attribute [local go_sem] Oper.semAt_some

/-- The iterator's contract. -/
theorem states_stops (sB lB zB B0 : Nat) {s : StP} {A : Option Addr} {n c : Nat} {l : List EnP} (hn : n ≤ 140737488355328) (w : World) (hsB : BoxS w sB s) (hlB : Boxed w lB 26 (.slice A n c)) (hr : Es w B0 A n l)
    (hB0 : B0 ≤ w.heap.size) (hz : zB < w.heap.size) (hzs : sB ≠ zB ∧ lB ≠ zB) :
    SeqT 23 Fence.wide 3 Try.prog 34 #[.pointer (some ⟨sB, 0, none⟩), .pointer (some ⟨lB, 0, none⟩)] encS (KpE B0 zB) (fun ys => ys = statesP s l) l.length w := fun l0 J Jx W hW hJ _ hY h0 =>
  states_in l0 sB lB zB B0 hn J Jx W hJ hY (hsB.below hW) ((hW.block lB hlB.lt).trans hlB) (hr.low fun k hk => hW.block k (by omega)) (by have := hW.size; omega) (by have := hW.size; omega) hzs h0

/-- What states answers. -/
def StatesOut (s : StP) (A : Option Addr) (n c : Nat) (w : World) (e : Ending) (w' : World) : Prop :=
  e = .returned (.func (.func 34) #[] #[.pointer (some ⟨w.heap.size, 0, none⟩), .pointer (some ⟨w.heap.size + 1, 0, none⟩)]) ∧ BoxS w' w.heap.size s ∧ Boxed w' (w.heap.size + 1) 26 (.slice A n c) ∧ w'.heap.size = w.heap.size + 2 ∧ Below w.heap.size w w'
set_option maxRecDepth 100000 in
set_option maxHeartbeats 400000 in
theorem states_any (s : StP) (A : Option Addr) (n c : Nat) (w : World) : Calls Try.prog 28 #[.agg #[.int .i64 s.ix, .int .i64 s.tm, .int .i64 s.sm, .int .i64 s.lv, .bool s.fn], .slice A n c] w (StatesOut s A n c w) := by
  go_enter Try.func28, Try.ntmps28
  go_wp2
  go_ret
  have e1 : (w.alloc (.cells #[.int .i64 s.ix, .int .i64 s.tm, .int .i64 s.sm, .int .i64 s.lv, .bool s.fn] 23)).heap.size = w.heap.size + 1 := by simp
  refine ⟨rfl, ?_, ?_, by simp, bel2 w _ _⟩
  · exact BoxS.below (BoxS.new w s) ((Below.refl _ _).alloc (Nat.le_refl _) _)
  · have h := Boxed.new (w.alloc (.cells #[.int .i64 s.ix, .int .i64 s.tm, .int .i64 s.sm, .int .i64 s.lv, .bool s.fn] 23)) 26 (.slice A n c)
    rw [e1] at h
    exact h

theorem states_last (s : StP) (l : List EnP) : (statesP s l).getLast?.getD s = allP s l := by
  unfold statesP
  rcases Nat.eq_zero_or_pos l.length with h | h
  · rw [h, List.eq_nil_of_length_eq_zero h]; rfl
  · obtain ⟨m, hm⟩ : ∃ m, l.length = m + 1 := ⟨l.length - 1, by omega⟩
    rw [hm, List.range_succ, List.map_append]
    simp only [List.map_cons, List.map_nil, List.getLast?_concat, Option.getD_some]
    rw [← hm, List.take_length]

/-- What speaks of blocks below B alone stays, whatever is turned from B on. -/
theorem ownT_low {β : Type} {t : TypeId} {B : Nat} {I : β → World → Prop} (hsz : ∀ s W, I s W → B ≤ W.heap.size) (h : ∀ s W W', I s W → Below B W W' → I s W') : OwnT t B I := fun s W W' row hs hg hr =>
  h s W W' hs ⟨hg.os, hg.tape, hg.output, hg.size, fun k hk => hg.block k (Nat.lt_of_lt_of_le hk (hsz s W hs)) (fun e => by have := (hr k e.symm).1; omega)⟩

/-- Between two rounds: the box z holds the last state that has come; the result's box lies as it lay. -/
structure AInv (w : World) (z D : Nat) (s : StP) (pre : List StP) (W : World) : Prop where
  bs : BoxS W z (pre.getLast?.getD s)
  br : BoxS W (z + 1) ⟨0, 0, 0, 0, false⟩
  low : Below w.heap.size w W
  size : D ≤ W.heap.size
/-- The loop's variable. -/
def AVar (D : Nat) (mk : Nat → StP → Act) (s : StP) (a' : Act) (W : World) : Prop := ∃ bx, BoxS W bx s ∧ D ≤ bx ∧ a' = mk bx s
theorem AVar.put {D : Nat} {mk : Nat → StP → Act} (s : StP) (a' : Act) (W : World) (l : Nat) (o o' : Obj) (h : AVar D mk s a' W) (hl : W.heap[l]? = some o) (ho : o.isCells = false) : AVar D mk s a' (W.putObj l o') := by
  obtain ⟨bx, hb, hD, e⟩ := h
  refine ⟨bx, (World.putObj_heap_other (fun e => ?_)).trans hb, hD, e⟩
  subst e
  rw [show W.heap[bx]? = _ from hb] at hl
  cases hl
  cases ho

set_option maxRecDepth 100000 in
set_option maxHeartbeats 2000000 in
theorem all_in (s : StP) (A : Option Addr) (n c : Nat) (l : List EnP) (w : World) (hl : Es w w.heap.size A n l) (hn : n ≤ 140737488355328) :
    CallsIn Fence.wide 4 Try.prog 17 #[s.v, .slice A n c] w (Does w (allP s l)) := by
  have Hl := Lib.hid hl
  clear hl
  unfold StP.v
  refine callsIn_of_wp_marks Try.func17 rfl trivial ?_ rfl
  simp only [Try.ntmps17, List.size_toArray, List.length_cons, List.length_nil, Nat.reduceAdd, Nat.reduceSub, Array.replicate_succ, Array.replicate_zero, List.push_toArray, List.append_toArray, List.nil_append, List.cons_append]
  gi_wp2_with fail
  refine ⟨trivial, ?_⟩
  obtain ⟨z, hz⟩ : ∃ z, z = w.heap.size := ⟨_, rfl⟩
  obtain ⟨wa, hwa⟩ : ∃ wa, wa = w.alloc (.cells #[.int .i64 s.ix, .int .i64 s.tm, .int .i64 s.sm, .int .i64 s.lv, .bool s.fn] 23) := ⟨_, rfl⟩
  obtain ⟨w0, hw0⟩ : ∃ w0, w0 = wa.alloc (.cells #[.int .i64 0, .int .i64 0, .int .i64 0, .int .i64 0, .bool false] 23) := ⟨_, rfl⟩
  have hsa : wa.heap.size = z + 1 := by rw [hwa, hz]; simp
  have hs0 : w0.heap.size = z + 2 := by rw [hw0]; simp [hsa]
  have hBa : Below w.heap.size w wa := by rw [hwa]; exact (Below.refl _ _).alloc (Nat.le_refl _) _
  have hB0 : Below w.heap.size w w0 := by rw [hw0]; exact hBa.alloc hBa.size _
  have ba : BoxS wa z s := by rw [hwa, hz]; exact BoxS.new w s
  have bs0 : BoxS w0 z s := ba.below (by rw [hw0]; exact (Below.refl _ _).alloc (Nat.le_refl _) _)
  have br0 : BoxS w0 (z + 1) ⟨0, 0, 0, 0, false⟩ := by rw [hw0, ← hsa]; exact BoxS.new wa ⟨0, 0, 0, 0, false⟩
  have he : w0 = (w.alloc (.cells #[.int .i64 s.ix, .int .i64 s.tm, .int .i64 s.sm, .int .i64 s.lv, .bool s.fn] 23)).alloc (.cells #[.int .i64 0, .int .i64 0, .int .i64 0, .int .i64 0, .bool false] 23) := by rw [hw0, hwa]
  rw [← he, ← hz]
  have Hzw := Lib.hid (show w.heap.size ≤ z ∧ w.heap.size ≤ z + 1 ∧ z + 1 ≠ z ∧ w0.heap.size = z + 2 ∧ z = w.heap.size by omega)
  clear he hw0 hwa hz hsa hBa ba hs0
  refine (callsIn_wide.2 (states_any s A n c w0)).mono ?_
  rintro e w1 ⟨rfl, hs1, hl1, hsz1, hb1⟩
  have h0 : AInv w z w1.heap.size s [] w1 := ⟨bs0.below hb1, br0.below hb1, hB0.trans (hb1.mono hB0.size), Nat.le_refl _⟩
  obtain ⟨sB, hsB⟩ : ∃ sB, sB = w0.heap.size := ⟨_, rfl⟩
  rw [← hsB] at hs1 hl1 ⊢
  have Hd := Lib.hid (show w.heap.size ≤ z ∧ z = w.heap.size ∧ z + 1 ≠ z ∧ sB = z + 2 ∧ w1.heap.size = z + 4 by have := Hzw.out; omega)
  have H0 := Lib.hid (⟨h0, hs1, hl1, Hl.out.low (w' := w1) (fun k hk => h0.low.block k hk)⟩ : _ ∧ _ ∧ _ ∧ _)
  clear h0 hs1 hl1 hb1 bs0 br0 hB0 hsz1 hsB
  gi_wp2_with fail
  refine range_T 23 rfl (by decide) (gf := 34) (lb := #[.pointer (some ⟨sB, 0, none⟩), .pointer (some ⟨sB + 1, 0, none⟩)]) rfl trivial (enters_of Try.func34 (by kernel_rfl) rfl)
    (states_stops sB (sB + 1) z w.heap.size hn w1 H0.out.2.1 H0.out.2.2.1 H0.out.2.2.2 (by have := Hd.out; omega) (by have := Hd.out; omega) (by have := Hd.out; omega)) (fun h h' => h.trans h') (KpE.put (by have := Hd.out; omega)) (Below.refl _ _) (fun _ => rfl)
    (AInv w z w1.heap.size s) (fun _ _ _ => False) (ownT_low (fun _ _ h => h.size) (fun pre W W' h hb => ⟨(hb.block z (by have := Hd.out; omega)).trans h.bs, (hb.block (z + 1) (by have := Hd.out; omega)).trans h.br, h.low.trans (hb.mono (by have := Hd.out; omega)), Nat.le_trans h.size hb.size⟩))
    (fun _ _ _ _ _ h _ _ => h) H0.out.1
    (AVar w1.heap.size fun bx d => { tmps := #[.agg #[.int .i64 s.ix, .int .i64 s.tm, .int .i64 s.sm, .int .i64 s.lv, .bool s.fn], .slice A n c, .pointer (some ⟨z, 0, none⟩), undef, .pointer (some ⟨z + 1, 0, none⟩), .pointer (some ⟨bx, 0, none⟩), .agg #[.int .i64 s.ix, .int .i64 s.tm, .int .i64 s.sm, .int .i64 s.lv, .bool s.fn], .slice A n c, .func (.func 34) #[] #[.pointer (some ⟨sB, 0, none⟩), .pointer (some ⟨sB + 1, 0, none⟩)], .agg #[.int .i64 d.ix, .int .i64 d.tm, .int .i64 d.sm, .int .i64 d.lv, .bool d.fn], undef, undef], defers := [] })
    AVar.put ?assign ?body ?done ?stop
  case assign =>
    intro lp pre d W hI hlen
    gi_wp2
    have hb := (Below.refl W.heap.size W).alloc (Nat.le_refl _) (.cells #[.int .i64 d.ix, .int .i64 d.tm, .int .i64 d.sm, .int .i64 d.lv, .bool d.fn] 23)
    have hsz := hI.size
    have hd := Hd.out
    exact ⟨(KeepsOthers.alloc _ _).from _, KpE.below hb (by omega), ⟨hI.bs.below hb, hI.br.below hb, hI.low.trans (hb.mono (by omega)), by have := hb.size; omega⟩, W.heap.size, BoxS.new W d, hsz, rfl⟩
  case body =>
    rintro lp pre d a' W hI ⟨bx, hbx, hDx, rfl⟩ hlen
    obtain ⟨k0, k1, k2, k3, k4⟩ := hbx.cells
    obtain ⟨f0, f1, f2, f3, f4⟩ := hI.bs.frozen
    obtain ⟨d0, d1, d2, d3, d4⟩ := hI.bs.cells
    have HI := Lib.hid hI
    clear hI hbx
    gi_wp2_with fail
    have hI := HI.out
    have hd := Hd.out
    refine ⟨KeepsFrom.of_grownBy (putS_grown W z d) (fun k e => by cases e; omega), ⟨fun k hk => putS_same (by omega) d, fun k o hk ho => (putS_same (fun e => ?_) d).trans hk, fun k cur t fr hne hk _ => (putS_same hne d).trans hk⟩, ⟨?_, putS_other hI.br (by omega) d, putS_below hI.low (by omega) d, ?_⟩⟩
    · rw [e, show W.heap[z]? = _ from hI.bs] at hk
      cases hk
      cases ho
    · rw [List.getLast?_concat]
      exact putS_box hI.bs d
    · show _ ≤ (putS W z d).heap.size
      rw [putS_size]; exact hI.size
  case done =>
    rintro D ys W hD2 rfl hI hK
    have hlast := states_last s l
    have hbs := hI.bs
    rw [hlast] at hbs
    obtain ⟨X, hX⟩ : ∃ X, X = allP s l := ⟨_, rfl⟩
    rw [← hX] at hbs
    obtain ⟨k0, k1, k2, k3, k4⟩ := hbs.cells
    obtain ⟨f0, f1, f2, f3, f4⟩ := hI.br.frozen
    obtain ⟨d0, d1, d2, d3, d4⟩ := hI.br.cells
    have HI := Lib.hid hI
    have HX := Lib.hid hX
    clear hI hX hlast hbs
    gi_wp2_with fail
    change LeavesInM _ _ _ _ _ _ _ _ (putS W (z + 1) X)
    have hI := HI.out
    have hd := Hd.out
    have hbr := putS_box hI.br X
    have hlow := putS_below (z := z + 1) hI.low (by omega) X
    refine leaves_marks (B := w.heap.size) [D] _ ⟨by simp, fun d hd => ?_⟩ fun w' hw' => ⟨X.v, ?_, ⟨by rw [HX.out], hlow.trans hw'.1⟩⟩
    · obtain rfl : d = D := by simpa using hd
      exact ⟨by omega, (putS_same (by omega) X).trans hK⟩
    · have hb' : BoxS w' (z + 1) X := hw'.2 _ _ hbr rfl
      obtain ⟨r0, r1, r2, r3, r4⟩ := hb'.cells
      clear hd
      simp [results, Try.results17, go_sem, *]
      rfl
  case stop =>
    rintro D cc pre W _ h _
    exact h.elim

theorem all_any (s : StP) (A : Option Addr) (n c : Nat) (l : List EnP) (w : World) (hl : Es w w.heap.size A n l) (hn : n ≤ 140737488355328) :
    Calls Try.prog 17 #[s.v, .slice A n c] w (Does w (allP s l)) := callsIn_wide.1 (all_in s A n c l w hl hn)

end Go.Proofs.Ytbaaghggilfpjaa
