/-
  entry.states and its iterator: their contracts.
-/
import Derived.Test.YtbaaghggilfpjaaRAll
import Derived.Test.YtbaaghggilfpjaaScope
import Derived.Test.YtbaaghggilfpjaaRangeT
import Derived.Test.YtbaaghggilfpjaaMarks
namespace Go.Proofs.Ytbaaghggilfpjaa
open Go.RowKit Go.Maps Go.Shelf

attribute [local go_sem] Oper.semAt_some

/-- A state, as it is handed over. -/
abbrev encS (s : StP) : Array Value := #[.agg #[.int .i64 s.ix, .int .i64 s.tm, .int .i64 s.sm, .int .i64 s.lv, .bool s.fn]]
/-- The states behind each. -/
def statesP (s : StP) (l : List EnP) : List StP := (List.range l.length).map fun i => allP s (l.take (i + 1))
theorem states_len (s : StP) (l : List EnP) : (statesP s l).length = l.length := by simp [statesP]
theorem states_succ (s : StP) {l : List EnP} {k : Nat} (hk : k < l.length) : statesP s (l.take (k + 1)) = statesP s (l.take k) ++ [allP s (l.take (k + 1))] := by
  unfold statesP
  rw [List.length_take, List.length_take, Nat.min_eq_left (by omega), Nat.min_eq_left (by omega), List.range_succ, List.map_append]
  congr 1
  · refine List.map_congr_left fun i hi => ?_
    have := List.mem_range.1 hi
    rw [List.take_take, List.take_take, Nat.min_eq_left (by omega), Nat.min_eq_left (by omega)]
  · simp only [List.map_cons, List.map_nil]
    rw [List.take_take, Nat.min_eq_left (Nat.le_refl _)]
/-- What a round must leave alone: what lies below B0; whatever walks; boxes of states, but for zB, and of rows of entries. -/
structure KpE (B0 zB : Nat) (A B : World) : Prop where
  low : ∀ k, k < B0 → B.heap[k]? = A.heap[k]?
  walks : ∀ (k : Nat) (o : Obj), A.heap[k]? = some o → o.isWalk = true → B.heap[k]? = some o
  cells : ∀ (k : Nat) cur t fr, k ≠ zB → A.heap[k]? = some (Obj.cells cur t fr) → t = 23 ∨ t = 26 → B.heap[k]? = some (Obj.cells cur t fr)
theorem KpE.refl (B0 zB : Nat) (A : World) : KpE B0 zB A A := ⟨fun _ _ => rfl, fun _ _ h _ => h, fun _ _ _ _ _ h _ => h⟩
theorem KpE.trans {B0 zB : Nat} {A B C : World} (h : KpE B0 zB A B) (k : KpE B0 zB B C) : KpE B0 zB A C :=
  ⟨fun i hi => (k.low i hi).trans (h.low i hi), fun i o hi ho => k.walks i o (h.walks i o hi ho) ho, fun i cur t fr hz hi ht => k.cells i cur t fr hz (h.cells i cur t fr hz hi ht) ht⟩
theorem KpE.put {B0 zB B : Nat} (hB : B0 ≤ B) (W : World) (l : Nat) (o o' : Obj) (hl : B ≤ l) (h : W.heap[l]? = some o) (hc : o.isCells = false) (hw : o.isWalk = false) : KpE B0 zB W (W.putObj l o') :=
  have key : ∀ (k : Nat) (x : Obj), W.heap[k]? = some x → (x.isWalk = true ∨ x.isCells = true) → (W.putObj l o').heap[k]? = some x := fun k x hk hx => by
    refine (World.putObj_heap_other (fun e => ?_)).trans hk
    subst e
    rw [h] at hk
    cases hk
    rcases hx with hx | hx
    · rw [hw] at hx; cases hx
    · rw [hc] at hx; cases hx
  ⟨fun k hk => World.putObj_heap_other (by omega), fun k x hk hx => key k x hk (.inl hx), fun k cur t fr _ hk _ => key k _ hk (.inr rfl)⟩
theorem KpE.below {B0 zB : Nat} {A B : World} (h : Below A.heap.size A B) (hB : B0 ≤ A.heap.size) : KpE B0 zB A B :=
  ⟨fun k hk => h.block k (by omega), fun k o hk _ => (h.block k (Array.getElem?_eq_some_iff.1 hk).1).trans hk, fun k cur t fr _ hk _ => (h.block k (Array.getElem?_eq_some_iff.1 hk).1).trans hk⟩

theorem grown_of {A B : World} (h : Below A.heap.size A B) : A.grownBy B none := ⟨h.os, h.tape, h.output, h.size, fun k hk _ => h.block k hk⟩
theorem putS_grown (W : World) (x : Nat) (s : StP) : W.grownBy (putS W x s) (some x) := by
  have h := putS_below (z := x) (Below.refl 0 W) (Nat.zero_le _) s
  exact ⟨h.os, h.tape, h.output, h.size, fun k _ hk => putS_same (fun e => hk (by rw [e])) s⟩
/-- What holds at the label: so many have come. -/
structure SInv (s : StP) (l : List EnP) (A : Option Addr) (n c sB lB B0 g x W0 : Nat) (J : List StP → World → Prop) (k : Nat) (w : World) : Prop where
  bx : BoxS w x (allP s (l.take k))
  bs : BoxS w sB s
  bl : Boxed w lB 26 (.slice A n c)
  eff : EffAt w g
  row : Es w B0 A n l
  j : J (statesP s (l.take k)) w
  size : W0 ≤ w.heap.size
def SAct (sB lB g x : Nat) (s : StP) (l0 : Nat) (k : Nat) (a' : Act) : Prop :=
  ∃ (u9 u10 u11 u12 u13 u14 u15 u16 u17 u18 u19 u20 u21 u22 u23 u24 : Value),
    a' = { tmps := #[.func (.yield l0) #[] #[], .pointer (some ⟨sB, 0, none⟩), .pointer (some ⟨lB, 0, none⟩), undef, .map (some g), .pointer (some ⟨x, 0, none⟩), .int .i64 k, .map (some g), .agg #[.int .i64 s.ix, .int .i64 s.tm, .int .i64 s.sm, .int .i64 s.lv, .bool s.fn], u9, u10, u11, u12, u13, u14, u15, u16, u17, u18, u19, u20, u21, u22, u23, u24], defers := [] }
/-- .. and where all of it lies. -/
def SAll (W : World) (s : StP) (l : List EnP) (A : Option Addr) (n c sB lB B0 : Nat) (J : List StP → World → Prop) (l0 : Nat) (a' : Act) (w : World) : Prop :=
  ∃ k g x, k ≤ n ∧ (W.heap.size ≤ x ∧ W.heap.size ≤ g ∧ x ≠ g) ∧ SInv s l A n c sB lB B0 g x W.heap.size J k w ∧ SAct sB lB g x s l0 k a'

set_option maxRecDepth 100000 in
set_option maxHeartbeats 2000000 in
theorem states_in (l0 sB lB zB B0 : Nat) {s : StP} {A : Option Addr} {n c : Nat} {l : List EnP} (hn : n ≤ 140737488355328) (J Jx : List StP → World → Prop) (W : World) (hJ : StaysT 23 W.heap.size J)
    (hY : ∀ pre x W1, J pre W1 → pre.length < l.length → YieldAt Fence.wide 2 Try.prog l0 (encS x) W1 fun e W' =>
      (e = .returned (.bool true) ∧ J (pre ++ [x]) W' ∧ KpE B0 zB W1 W') ∨ (e = .returned (.bool false) ∧ Jx (pre ++ [x]) W'))
    (hsB : BoxS W sB s) (hlB : Boxed W lB 26 (.slice A n c)) (hr : Es W B0 A n l) (hB0 : B0 ≤ W.heap.size) (hz : zB < W.heap.size) (hzs : sB ≠ zB ∧ lB ≠ zB) (h0 : J [] W) :
    CallsIn Fence.wide 3 Try.prog 34 #[.func (.yield l0) #[] #[], .pointer (some ⟨sB, 0, none⟩), .pointer (some ⟨lB, 0, none⟩)] W fun e W' => (∃ v, e = .returned v) ∧
      ((∃ ys, ys = statesP s l ∧ J ys W') ∨ (∃ pre, Jx pre W')) := by
  refine callsIn_of_wp Try.func34 rfl trivial ?_ rfl
  simp only [Try.ntmps34, List.size_toArray, List.length_cons, List.length_nil, Nat.reduceAdd, Nat.reduceSub, Array.replicate_succ, Array.replicate_zero, List.push_toArray, List.append_toArray, List.nil_append, List.cons_append]
  have Hl := Lib.hid hr.len
  refine scope_once 0 (SAll W s l A n c sB lB B0 J l0) (fun a' _ => n - (intOf (a'.tmps.getD 6 undef)).toNat) rfl ?_ ?_
  · intro hrest
    gi_wp2_with fail
    refine ⟨trivial, ?_⟩
    refine (callsIn_wide.2 (effects_any W)).mono ?_
    rintro e w1 ⟨⟨g, rfl, hE, hg⟩, hb1⟩
    have bs1 := hsB.below hb1
    have bl1 : Boxed w1 lB 26 (.slice A n c) := (hb1.block lB hlB.lt).trans hlB
    have hr1 := hr.low (fun k hk => hb1.block k (by omega))
    obtain ⟨k0, k1, k2, k3, k4⟩ := bs1.cells
    gi_wp2_with fail
    refine wpIn_label ?_
    rename_i hK
    have hb2 : Below w1.heap.size w1 (w1.alloc (.cells #[.int .i64 s.ix, .int .i64 s.tm, .int .i64 s.sm, .int .i64 s.lv, .bool s.fn] 23)) := (Below.refl _ _).alloc (Nat.le_refl _) _
    have bx2 := BoxS.new w1 s
    have hx := hb1.size
    obtain ⟨w2, hw2⟩ : ∃ w2, w2 = w1.alloc (.cells #[.int .i64 s.ix, .int .i64 s.tm, .int .i64 s.sm, .int .i64 s.lv, .bool s.fn] 23) := ⟨_, rfl⟩
    rw [← hw2] at hb2 bx2 ⊢
    clear hw2
    have hJ2 : J [] w2 := hJ _ _ w2 none h0 (grown_of (hb1.trans (hb2.mono hx))) (fun r e => by cases e)
    exact hK _ _ (hrest _ _ ⟨0, g, w1.heap.size, Nat.zero_le _, ⟨hx, hg, by have := hE.lt; omega⟩,
      ⟨bx2, bs1.below hb2, (hb2.block lB bl1.lt).trans bl1, hE.below (hb2.block g hE.lt), hr1.low (fun k hk => hb2.block k (by omega)), hJ2, by have := hb2.size; omega⟩, _, _, _, _, _, _, _, _, _, _, _, _, _, _, _, _, rfl⟩)
  · rintro a' wr ⟨k, g, x, hk, ⟨hx, hg, hxg⟩, hi, u9, u10, u11, u12, u13, u14, u15, u16, u17, u18, u19, u20, u21, u22, u23, u24, rfl⟩
    have HI := Lib.hid hi
    obtain ⟨k0, k1, k2, k3, k4⟩ := hi.bx.cells
    have hlc := hi.bl.cell
    have hi2 := hi.row
    clear hi
    by_cases hlt : k < n
    · have hq : ((k : Int) == (n : Int)) = false := by simp; omega
      have hk1 : (0 : Int) ≤ (k : Int) ∧ (k : Int) < (n : Int) := by omega
      have hw1 : IntKind.i64.wrap ((k : Int) + 1) = ((k + 1 : Nat) : Int) := by rw [IntKind.wrap_i64]; omega
      obtain ⟨hk2, hk3⟩ := hk1
      obtain ⟨b, off, en, rfl, hbl, he, c0, c1, c2⟩ := hi2.at_ hlt
      have hnx : nextP (allP s (l.take k)) en = allP s (l.take (k + 1)) := by rw [take_succ he, all_snoc]
      obtain ⟨t, ht⟩ : ∃ t, t = allP s (l.take k) := ⟨_, rfl⟩
      obtain ⟨X, hX⟩ : ∃ X, X = allP s (l.take (k + 1)) := ⟨_, rfl⟩
      rw [← ht] at k0 k1 k2 k3 k4 hnx
      rw [← hX] at hnx
      have HX := Lib.hid (⟨ht, hX⟩ : _ ∧ _)
      have Hnx := Lib.hid hnx
      have HY := Lib.hid hY
      have HG := Lib.hid (⟨hsB, hlB, hr, hB0, hz, hzs, h0⟩ : _ ∧ _ ∧ _ ∧ _ ∧ _ ∧ _ ∧ _)
      clear ht hX hnx he hi2 hY hsB hlB hr hB0 hz hzs h0 hbl
      gi_wp2_with fail
      refine wpIn_wide.2 ?_
      go_still_tail 6, (by kernel_rfl)
      change wpList _ _ _ _ _ wr.drew
      go_wp2_with fail
      refine Calls.mono (behind_any t en g _ ?_) ?_
      · exact HI.out.eff.below rfl
      rw [Hnx.out]
      rintro r w4 ⟨rfl, hb4⟩
      unfold StP.v
      have hb5 : Below wr.heap.size wr w4 := (below_dr (below_d0 wr)).trans hb4
      have bx4 := HI.out.bx.below hb5
      obtain ⟨f0, f1, f2, f3, f4⟩ := bx4.frozen
      obtain ⟨d0, d1, d2, d3, d4⟩ := bx4.cells
      have H4 := Lib.hid (⟨hb5, bx4⟩ : _ ∧ _)
      clear hb4 hb5 bx4 k0 k1 k2 k3 k4 c0 c1 c2 hlc
      go_wp2_with fail
      change Code.wpIn _ _ _ _ _ _ (putS w4 x X)
      have hbx : BoxS (putS w4 x X) x X := putS_box H4.out.2 X
      have hsz4 := H4.out.1.size
      have hJ5 : J (statesP s (l.take k)) (putS w4 x X) := hJ _ w4 _ (some x) (hJ _ wr w4 none HI.out.j (grown_of H4.out.1) (fun r e => by cases e)) (putS_grown w4 x X) (fun r e => by cases e; exact ⟨hx, _, H4.out.2, .inr ⟨_, _, rfl⟩⟩)
      have hsB := HG.out.1.lt
      have hlB := HG.out.2.1.lt
      have hi5 : BoxS (putS w4 x X) sB s ∧ Boxed (putS w4 x X) lB 26 (.slice (some ⟨b, off, none⟩) n c) ∧ EffAt (putS w4 x X) g ∧ Es (putS w4 x X) B0 (some ⟨b, off, none⟩) n l ∧ W.heap.size ≤ (putS w4 x X).heap.size := by
        have h1 := HI.out
        have h2 := HG.out.2.2.2.1
        have h3 := h1.size
        refine ⟨putS_other (h1.bs.below H4.out.1) (by omega) X, ?_, ?_, ?_, by rw [putS_size]; omega⟩
        · exact (putS_same (by omega) X).trans ((H4.out.1.block lB h1.bl.lt).trans h1.bl)
        · exact h1.eff.below ((putS_same (fun e => hxg e.symm) X).trans (H4.out.1.block g h1.eff.lt))
        · exact h1.row.low fun i hi => (putS_same (by omega) X).trans (H4.out.1.block i (by omega))
      obtain ⟨w5, hw5⟩ : ∃ w5, w5 = putS w4 x X := ⟨_, rfl⟩
      rw [← hw5] at hbx hJ5 hi5 ⊢
      clear hw5 f0 f1 f2 f3 f4 d0 d1 d2 d3 d4
      obtain ⟨k0, k1, k2, k3, k4⟩ := hbx.cells
      have hlen : (statesP s (l.take k)).length < l.length := by rw [states_len, List.length_take, Hl.out]; omega
      obtain ⟨fn, tmps, assign, body, hy, hR⟩ := HY.out _ X w5 hJ5 hlen
      have Hst := Lib.hid (show statesP s (l.take k) ++ [X] = statesP s (l.take (k + 1)) by rw [HX.out.2, states_succ s (by rw [Hl.out]; exact hlt)])
      have H5 := Lib.hid (⟨hbx, hi5⟩ : _ ∧ _)
      dsimp only [encS] at hy
      clear hbx hi5 hJ5 hlen
      gi_wp2_with fail
      refine hR.mono ?_
      rintro e W3 (⟨rfl, hJ3, hk3⟩ | ⟨rfl, hJx3⟩)
      · have H3 := Lib.hid (⟨hJ3, hk3⟩ : _ ∧ _)
        clear hJ3 hk3 k0 k1 k2 k3 k4
        gi_wp2_with fail
        refine wpIn_goto ?_
        refine ⟨rfl, ⟨k + 1, g, x, hlt, ⟨hx, hg, hxg⟩, ?_, _, _, _, _, _, _, _, _, _, _, _, _, _, _, _, _, rfl⟩, ?_⟩
        · obtain ⟨hJ3, hk3⟩ := H3.out
          obtain ⟨hbx, hs5, hl5, he5, hr5, hz5⟩ := H5.out
          obtain ⟨_, _, _, hB0, hz, hzs, _⟩ := HG.out
          refine ⟨?_, hk3.cells sB _ _ _ hzs.1 hs5 (.inl rfl), hk3.cells lB _ _ _ hzs.2 hl5 (.inr rfl), ?_, hr5.low hk3.low, by rw [← Hst.out]; exact hJ3, ?_⟩
          · rw [← HX.out.2]
            exact hk3.cells x _ _ _ (by omega) hbx (.inl rfl)
          · obtain ⟨es, clock, h1, h2⟩ := he5
            exact ⟨es, clock, hk3.walks g _ h1 rfl, h2⟩
          · have h6 := hk3.cells x _ _ _ (by omega) hbx (.inl rfl)
            have h7 := (Array.getElem?_eq_some_iff.1 h6).1
            omega
        · simp [intOf]
          omega
      · gi_wp2_with fail
        simp only [Exit.jump]
        go_end0
        exact ⟨⟨_, rfl⟩, .inr ⟨_, hJx3⟩⟩
    · obtain rfl : k = n := by omega
      have hq : ((k : Int) == (k : Int)) = true := by simp
      have hfin : J (statesP s l) wr := by
        have h1 := HI.out.j
        rw [List.take_of_length_le (by rw [Hl.out]; exact Nat.le_refl _)] at h1
        exact h1
      have Hf := Lib.hid hfin
      clear hfin hJ hY h0
      gi_wp2_with fail
      simp only [Exit.jump]
      refine bodyPost_ret (results_none rfl _ _ _) rfl ?_
      exact ⟨⟨_, rfl⟩, .inl Hf.out⟩

end Go.Proofs.Ytbaaghggilfpjaa
