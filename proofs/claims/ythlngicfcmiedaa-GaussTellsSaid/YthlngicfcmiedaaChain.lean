/-
  gauss.all, gauss.Chain: their contracts.
-/
import Derived.Test.YthlngicfcmiedaaIter
import Derived.Test.YthlngicfcmiedaaMarks
import Derived.Laws.EntriesVeiled
namespace Go.Proofs.Ythlngicfcmiedaa
open Go.RowKit Go.Shelf

/-- What no file of the guide has: the store of a complex number. -/
theorem run_store_complex {P : Program} {w : World} {a : Addr} {m : Mode} (k : FloatKind) (x y : Nat) : (store a (.complex k x y) m).run P w = stored P w a (.complex k x y) m := run_store P w a _ m rfl
attribute [local go_sem] Oper.semAt_some run_store_complex

def AllOut (A : Option Addr) (n c : Nat) (w : World) (e : Ending) (w' : World) : Prop :=
  e = .returned (.func (.func 27) #[] #[.pointer (some ⟨w.heap.size, 0, none⟩)]) ∧ Boxed w' w.heap.size 24 (.slice A n c) ∧ w'.heap.size = w.heap.size + 1 ∧ Below w.heap.size w w'
set_option maxRecDepth 100000 in
set_option maxHeartbeats 400000 in
theorem all_any (A : Option Addr) (n c : Nat) (w : World) : Calls Try.prog 25 #[.slice A n c] w (AllOut A n c w) := by
  go_enter Try.func25, Try.ntmps25
  go_wp2
  go_ret
  exact ⟨rfl, Boxed.new w _ _, by simp, (Below.refl _ w).alloc (Nat.le_refl _) _⟩

theorem some_ne_row {W W' : World} {row : Option Nat} {B b : Nat} {o : Obj} (_hg : W.grownBy W' row) (hr : ∀ r, row = some r → B ≤ r ∧ ∃ o : Obj, W.heap[r]? = some o ∧ o.isCells = false) (hb : W.heap[b]? = some o) (h : b < B ∨ o.isCells = true) : some b ≠ row := by
  intro e
  obtain ⟨hB, o', ho, hc⟩ := hr b e.symm
  rcases h with h | h
  · omega
  · rw [hb] at ho
    cases ho
    rw [h] at hc
    cases hc

theorem flat_byt {w : World} {B : Nat} {A : Option Addr} {n : Nat} {ps : List Part} (h : Rds w B A n ps) : Byt (flat ps) := by
  intro x hx
  unfold flat at hx
  obtain ⟨l, hl, hxl⟩ := List.mem_flatten.1 hx
  obtain ⟨p, hp, rfl⟩ := List.mem_map.1 hl
  exact (h.parts p hp).2.1 x hxl

/-- Between two bytes' rounds: the box zB holds the point so far; the closure's two boxes hold what they held; what lay when the call began lies. -/
def CI (w : World) (zB rB bm : Nat) (p : Int × Int) (pre : List Int) (W : World) : Prop :=
  (∃ x y q, Boxed W zB 27 (.complex .f64 x y) ∧ Pt x y q ∧ (Byt pre → q = chainP p pre)) ∧ Below w.heap.size w W ∧ Boxed W rB 48 (restV bm) ∧ Boxed W bm 3 (.int .i64 10007)
theorem CI.own {w : World} {zB rB bm B : Nat} {p : Int × Int} (_hw : w.heap.size ≤ B) : OwnFrom B (CI w zB rB bm p) := by
  rintro pre W W' row ⟨⟨x, y, q, hz, hp⟩, hB, b1, b2⟩ hg hr
  exact ⟨⟨x, y, q, hz.kept hg (some_ne_row hg hr hz (.inr rfl)), hp⟩, hB.grown hg hB.size (fun k e => by have := (hr k e).1; omega), b1.kept hg (some_ne_row hg hr b1 (.inr rfl)), b2.kept hg (some_ne_row hg hr b2 (.inr rfl))⟩

set_option maxRecDepth 100000 in
set_option maxHeartbeats 2000000 in
theorem chain_in {x y : Nat} {p : Int × Int} {A : Option Addr} {n : Nat} (c : Nat) {ps : List Part} (w : World) (hp : From x y p) (hr : Rds w w.heap.size A n ps) (hn : n ≤ 140737488355328) :
    CallsIn Fence.wide 4 Try.prog 15 #[.complex .f64 x y, .slice A n c] w fun e w' => ChainOut (chainP p (flat ps)) e ∧ Below w.heap.size w w' := by
  rcases hp with hp | ⟨hp, hp0⟩
  · have Hz : Hid (Pt x y (chainP p [])) := Lib.hid hp
    refine callsIn_of_wp_marks Try.func15 rfl trivial ?_ rfl
    simp only [Try.ntmps15, List.size_toArray, List.length_cons, List.length_nil, Nat.reduceAdd, Nat.reduceSub, Array.replicate_succ, Array.replicate_zero, List.push_toArray, List.append_toArray, List.nil_append, List.cons_append]
    gi_wp2_with fail
    refine ⟨trivial, ?_⟩
    refine (callsIn_wide.2 (right_yes hp _)).mono ?_
    rintro e w' ⟨rfl, rfl⟩
    gi_wp2_with fail
    refine ⟨trivial, ?_⟩
    obtain ⟨zB, hzB⟩ : ∃ zB, zB = w.heap.size := ⟨_, rfl⟩
    obtain ⟨w0, hw0⟩ : ∃ w0, w0 = w.alloc (.cells #[.complex .f64 x y] 27) := ⟨_, rfl⟩
    have hz0 : Boxed w0 zB 27 (.complex .f64 x y) := by rw [hw0, hzB]; exact Boxed.new w _ _
    have hB0 : Below w.heap.size w w0 := by rw [hw0]; exact (Below.refl _ _).alloc (Nat.le_refl _) _
    have hs0 : w0.heap.size = zB + 1 := by rw [hw0, hzB]; simp
    rw [← hw0, ← hzB]
    clear hw0
    refine (callsIn_wide.2 (restBy_any _)).mono ?_
    rintro e w1 ⟨rfl, hbm, hs1, hb1⟩
    unfold restV
    obtain ⟨bm, hbm0⟩ : ∃ bm, bm = w0.heap.size := ⟨_, rfl⟩
    rw [← hbm0] at hbm hs1 hb1 ⊢
    have hz1 : Boxed w1 zB 27 (.complex .f64 x y) := (hb1.block zB (by omega)).trans hz0
    have hB1 := hB0.trans (hb1.mono (by rw [hbm0]; exact hB0.size))
    have hbz1 : zB < bm ∧ w.heap.size ≤ zB := by omega
    have Hs1 := Lib.hid hs1
    clear hbm0 hs0 hs1 hb1 hB0 hz0 hzB
    gi_wp2_with fail
    refine ⟨trivial, ?_⟩
    obtain ⟨rB, hrB⟩ : ∃ rB, rB = w1.heap.size := ⟨_, rfl⟩
    obtain ⟨w2, hw2⟩ : ∃ w2, w2 = w1.alloc (.cells #[.func (.func 26) #[] #[.pointer (some ⟨bm, 0, none⟩)]] 48) := ⟨_, rfl⟩
    have hr2 : Boxed w2 rB 48 (restV bm) := by rw [hw2, hrB]; exact Boxed.new w1 _ _
    have hz2 : Boxed w2 zB 27 (.complex .f64 x y) := by rw [hw2]; exact hz1.alloc _
    have hm2 : Boxed w2 bm 3 (.int .i64 10007) := by rw [hw2]; exact hbm.alloc _
    have hB2 : Below w.heap.size w w2 := by rw [hw2]; exact hB1.alloc hB1.size _
    have hs2 : w2.heap.size = rB + 1 := by rw [hw2, hrB]; simp
    rw [← hw2, ← hrB]
    have Hrb := Lib.hid hrB
    clear hw2 hz1 hbm hB1 hrB
    refine (callsIn_wide.2 (all_any _ _ _ _)).mono ?_
    rintro e w3 ⟨rfl, hs, hs3, hb3⟩
    obtain ⟨s, hs0⟩ : ∃ s, s = w2.heap.size := ⟨_, rfl⟩
    rw [← hs0] at hs hs3 hb3 ⊢
    have hz3 : Boxed w3 zB 27 (.complex .f64 x y) := (hb3.block zB (by rw [hs0]; exact hz2.lt)).trans hz2
    have hm3 : Boxed w3 bm 3 (.int .i64 10007) := (hb3.block bm (by rw [hs0]; exact hm2.lt)).trans hm2
    have hr3 : Boxed w3 rB 48 (restV bm) := (hb3.block rB (by rw [hs0]; exact hr2.lt)).trans hr2
    have hB3 := hB2.trans (hb3.mono (by rw [hs0]; exact hB2.size))
    have h0 : CI w zB rB bm p [] w3 := ⟨⟨_, _, _, hz3, Hz.out, fun _ => rfl⟩, hB3, hr3, hm3⟩
    have hB3' := hB3.size
    have hzs := hz3.lt
    have hbz : (rB ≠ zB ∧ bm ≠ zB) ∧ w.heap.size ≤ zB := by have h1 := Hs1.out; have h2 := Hrb.out; omega
    have Hs0 := Lib.hid hs0
    have Hs2 := Lib.hid hs2
    have Hs3 := Lib.hid hs3
    clear hs0 hs2 hs3 hb3 hB2 hz2 hm2 hr2 hz3 hm3 hr3
    gi_wp2_with fail
    refine wpIn_rangeFunc_ownG rfl (by omega) (gf := 27) (lb := #[.pointer (some ⟨s, 0, none⟩)]) rfl trivial (enters_of Try.func27 (by kernel_rfl) rfl)
      (iter_stops s c hn w3 hB3.size hs (hr.on hB3 (Nat.le_refl _))) (fun h h' => h.trans h') (belowK_b hB3.size) (Below.refl _ _) (fun _ => rfl)
      (CI w zB rB bm p) (fun _ _ _ => False) (CI.own hB3.size) (fun _ _ _ _ _ h _ _ => h) h0
      (fun d => { tmps := #[.complex .f64 x y, .slice A n c, .pointer (some ⟨zB, 0, none⟩), undef, .complex .f64 0 0, .pointer (some ⟨rB, 0, none⟩), .int .u8 (d % 256), .complex .f64 x y, .bool true, .bool false, .func (.func 26) #[] #[.pointer (some ⟨bm, 0, none⟩)], .slice A n c, .func (.func 27) #[] #[.pointer (some ⟨s, 0, none⟩)], .int .u8 (d % 256), undef, undef, undef, undef, undef], defers := [] }) ?assign ?body ?done ?stop
    case assign =>
      intro lp d W K hK
      gi_wp2
      exact hK
    case body =>
      rintro lp pre d W ⟨⟨a, b, q, hz, hq, he⟩, hB, b1, b2⟩ hlt2
      have hzc := hz.cell
      have hfz := hz.frozen
      have hbc := b1.cell
      unfold restV at hbc
      have hby : 0 ≤ d % 256 ∧ d % 256 ≤ 255 := by omega
      gi_wp2_with fail
      refine ⟨trivial, ?_⟩
      refine (CallsIn.inRound lp (callsIn_wide.2 (step_any W hq hby b2.cell))).mono ?_
      rintro e w' ⟨rfl, rfl⟩
      gi_wp2_with fail
      have He : Byt (pre ++ [d]) → nextP q (d % 256) = chainP p (pre ++ [d]) := fun hby => by
        rw [chainP_snoc, he (fun x hx => hby x (by simp [hx])), byte_rest (hby d (by simp))]
      exact ⟨KeepsFrom.of_grownBy (grownBy_setCell' W zB _) (fun k e => by cases e; exact hzs), (Below.refl _ _).setCell hbz.2 _, ⟨_, _, _, hz.set _, Pt.fl (nextP_in _ _), He⟩, hB.setCell hbz.2 _, b1.other hbz.1.1 _, b2.other hbz.1.2 _⟩
    case done =>
      rintro D ys W hD rfl ⟨⟨a, b, q, hz, hq, he⟩, hB, b1, b2⟩ hK
      have hzc := hz.cell
      have He := Lib.hid he
      clear he
      gi_wp2
      refine leaves_marks [D] W ⟨by simp, fun d hd => ?_⟩ fun w' hw' => ⟨_, results_tmp rfl _ _ _, ?_, hB.trans hw'.1⟩
      · obtain rfl : d = D := by simpa using hd
        exact ⟨Nat.le_trans hB3' hD, hK⟩
      · exact ⟨a, b, rfl, by rw [← He.out (flat_byt hr)]; exact hq⟩
    case stop =>
      rintro D cc pre W _ _ h _
      exact h.elim
  · have Hp := Lib.hid hp
    have Hz : Hid (Pt 0 0 (chainP p [])) := Lib.hid (by rw [hp0]; exact Pt.zero)
    clear hp hp0
    refine callsIn_of_wp_marks Try.func15 rfl trivial ?_ rfl
    simp only [Try.ntmps15, List.size_toArray, List.length_cons, List.length_nil, Nat.reduceAdd, Nat.reduceSub, Array.replicate_succ, Array.replicate_zero, List.push_toArray, List.append_toArray, List.nil_append, List.cons_append]
    gi_wp2_with fail
    refine ⟨trivial, ?_⟩
    refine (callsIn_wide.2 (right_no Hp.out _)).mono ?_
    rintro e w' ⟨rfl, rfl⟩
    gi_wp2_with fail
    refine ⟨trivial, ?_⟩
    obtain ⟨zB, hzB⟩ : ∃ zB, zB = w.heap.size := ⟨_, rfl⟩
    obtain ⟨w0, hw0⟩ : ∃ w0, w0 = w.alloc (.cells #[.complex .f64 0 0] 27) := ⟨_, rfl⟩
    have hz0 : Boxed w0 zB 27 (.complex .f64 0 0) := by rw [hw0, hzB]; exact Boxed.new w _ _
    have hB0 : Below w.heap.size w w0 := by rw [hw0]; exact (Below.refl _ _).alloc (Nat.le_refl _) _
    have hs0 : w0.heap.size = zB + 1 := by rw [hw0, hzB]; simp
    rw [← hw0, ← hzB]
    clear hw0
    refine (callsIn_wide.2 (restBy_any _)).mono ?_
    rintro e w1 ⟨rfl, hbm, hs1, hb1⟩
    unfold restV
    obtain ⟨bm, hbm0⟩ : ∃ bm, bm = w0.heap.size := ⟨_, rfl⟩
    rw [← hbm0] at hbm hs1 hb1 ⊢
    have hz1 : Boxed w1 zB 27 (.complex .f64 0 0) := (hb1.block zB (by omega)).trans hz0
    have hB1 := hB0.trans (hb1.mono (by rw [hbm0]; exact hB0.size))
    have hbz1 : zB < bm ∧ w.heap.size ≤ zB := by omega
    have Hs1 := Lib.hid hs1
    clear hbm0 hs0 hs1 hb1 hB0 hz0 hzB
    gi_wp2_with fail
    refine ⟨trivial, ?_⟩
    obtain ⟨rB, hrB⟩ : ∃ rB, rB = w1.heap.size := ⟨_, rfl⟩
    obtain ⟨w2, hw2⟩ : ∃ w2, w2 = w1.alloc (.cells #[.func (.func 26) #[] #[.pointer (some ⟨bm, 0, none⟩)]] 48) := ⟨_, rfl⟩
    have hr2 : Boxed w2 rB 48 (restV bm) := by rw [hw2, hrB]; exact Boxed.new w1 _ _
    have hz2 : Boxed w2 zB 27 (.complex .f64 0 0) := by rw [hw2]; exact hz1.alloc _
    have hm2 : Boxed w2 bm 3 (.int .i64 10007) := by rw [hw2]; exact hbm.alloc _
    have hB2 : Below w.heap.size w w2 := by rw [hw2]; exact hB1.alloc hB1.size _
    have hs2 : w2.heap.size = rB + 1 := by rw [hw2, hrB]; simp
    rw [← hw2, ← hrB]
    have Hrb := Lib.hid hrB
    clear hw2 hz1 hbm hB1 hrB
    refine (callsIn_wide.2 (all_any _ _ _ _)).mono ?_
    rintro e w3 ⟨rfl, hs, hs3, hb3⟩
    obtain ⟨s, hs0⟩ : ∃ s, s = w2.heap.size := ⟨_, rfl⟩
    rw [← hs0] at hs hs3 hb3 ⊢
    have hz3 : Boxed w3 zB 27 (.complex .f64 0 0) := (hb3.block zB (by rw [hs0]; exact hz2.lt)).trans hz2
    have hm3 : Boxed w3 bm 3 (.int .i64 10007) := (hb3.block bm (by rw [hs0]; exact hm2.lt)).trans hm2
    have hr3 : Boxed w3 rB 48 (restV bm) := (hb3.block rB (by rw [hs0]; exact hr2.lt)).trans hr2
    have hB3 := hB2.trans (hb3.mono (by rw [hs0]; exact hB2.size))
    have h0 : CI w zB rB bm p [] w3 := ⟨⟨_, _, _, hz3, Hz.out, fun _ => rfl⟩, hB3, hr3, hm3⟩
    have hB3' := hB3.size
    have hzs := hz3.lt
    have hbz : (rB ≠ zB ∧ bm ≠ zB) ∧ w.heap.size ≤ zB := by have h1 := Hs1.out; have h2 := Hrb.out; omega
    have Hs0 := Lib.hid hs0
    have Hs2 := Lib.hid hs2
    have Hs3 := Lib.hid hs3
    clear hs0 hs2 hs3 hb3 hB2 hz2 hm2 hr2 hz3 hm3 hr3
    gi_wp2_with fail
    refine wpIn_rangeFunc_ownG rfl (by omega) (gf := 27) (lb := #[.pointer (some ⟨s, 0, none⟩)]) rfl trivial (enters_of Try.func27 (by kernel_rfl) rfl)
      (iter_stops s c hn w3 hB3.size hs (hr.on hB3 (Nat.le_refl _))) (fun h h' => h.trans h') (belowK_b hB3.size) (Below.refl _ _) (fun _ => rfl)
      (CI w zB rB bm p) (fun _ _ _ => False) (CI.own hB3.size) (fun _ _ _ _ _ h _ _ => h) h0
      (fun d => { tmps := #[.complex .f64 x y, .slice A n c, .pointer (some ⟨zB, 0, none⟩), undef, .complex .f64 0 0, .pointer (some ⟨rB, 0, none⟩), .int .u8 (d % 256), .complex .f64 x y, .bool false, .bool true, .func (.func 26) #[] #[.pointer (some ⟨bm, 0, none⟩)], .slice A n c, .func (.func 27) #[] #[.pointer (some ⟨s, 0, none⟩)], .int .u8 (d % 256), undef, undef, undef, undef, undef], defers := [] }) ?assign ?body ?done ?stop
    case assign =>
      intro lp d W K hK
      gi_wp2
      exact hK
    case body =>
      rintro lp pre d W ⟨⟨a, b, q, hz, hq, he⟩, hB, b1, b2⟩ hlt2
      have hzc := hz.cell
      have hfz := hz.frozen
      have hbc := b1.cell
      unfold restV at hbc
      have hby : 0 ≤ d % 256 ∧ d % 256 ≤ 255 := by omega
      gi_wp2_with fail
      refine ⟨trivial, ?_⟩
      refine (CallsIn.inRound lp (callsIn_wide.2 (step_any W hq hby b2.cell))).mono ?_
      rintro e w' ⟨rfl, rfl⟩
      gi_wp2_with fail
      have He : Byt (pre ++ [d]) → nextP q (d % 256) = chainP p (pre ++ [d]) := fun hby => by
        rw [chainP_snoc, he (fun x hx => hby x (by simp [hx])), byte_rest (hby d (by simp))]
      exact ⟨KeepsFrom.of_grownBy (grownBy_setCell' W zB _) (fun k e => by cases e; exact hzs), (Below.refl _ _).setCell hbz.2 _, ⟨_, _, _, hz.set _, Pt.fl (nextP_in _ _), He⟩, hB.setCell hbz.2 _, b1.other hbz.1.1 _, b2.other hbz.1.2 _⟩
    case done =>
      rintro D ys W hD rfl ⟨⟨a, b, q, hz, hq, he⟩, hB, b1, b2⟩ hK
      have hzc := hz.cell
      have He := Lib.hid he
      clear he
      gi_wp2
      refine leaves_marks [D] W ⟨by simp, fun d hd => ?_⟩ fun w' hw' => ⟨_, results_tmp rfl _ _ _, ?_, hB.trans hw'.1⟩
      · obtain rfl : d = D := by simpa using hd
        exact ⟨Nat.le_trans hB3' hD, hK⟩
      · exact ⟨a, b, rfl, by rw [← He.out (flat_byt hr)]; exact hq⟩
    case stop =>
      rintro D cc pre W _ _ h _
      exact h.elim

end Go.Proofs.Ythlngicfcmiedaa
