/-
  moultref06.Levels: its contract.
-/
import Derived.Test.YtbaaghggilfpjaaLev
import Derived.Test.YtbaaghggilfpjaaRow
import Derived.StillTailTactics
namespace Go.Proofs.Ytbaaghggilfpjaa
open Go.RowKit Go.Maps

set_option maxRecDepth 100000 in
set_option maxHeartbeats 2000000 in
theorem rlevels_any (s : StP) (A : Option Addr) (n c : Nat) (l : List EnP) (w : World) (hl : Es w w.heap.size A n l) (hn : n ≤ 1000) :
    Calls Try.prog 23 #[s.v, .slice A n c] w (LevOut w (levelsP s l)) := by
  obtain ⟨i0, hi, hz0, hz1, hz2⟩ := info_partsV info_int
  have h0 : allP s (l.take 0) = s := rfl
  have hln := hl.len
  have Hall := Lib.hid (show (statesP s (l.take n)).map lvV = (levelsP s l).map (Value.int .i64) by rw [List.take_of_length_le (by omega), levels_states])
  have Hll := Lib.hid hln
  have Hl := Lib.hid hl
  clear hl
  unfold StP.v
  go_enter Try.func23, Try.ntmps23
  go_wp2_with fail
  obtain ⟨z, hz⟩ : ∃ z, z = w.heap.size := ⟨_, rfl⟩
  obtain ⟨w0, hw0⟩ : ∃ w0, w0 = w.alloc (.cells #[.int .i64 s.ix, .int .i64 s.tm, .int .i64 s.sm, .int .i64 s.lv, .bool s.fn] 23) := ⟨_, rfl⟩
  have hB0 : Below w.heap.size w w0 := by rw [hw0]; exact (Below.refl _ _).alloc (Nat.le_refl _) _
  have bs0 : BoxS w0 z s := by rw [hw0, hz]; exact BoxS.new w s
  rw [← hw0, ← hz]
  have Hzw := Lib.hid (show w.heap.size ≤ z by omega)
  clear hw0 hz hln
  rw [← h0] at bs0
  go_loopw [5, 6] (fun v i wr => ∃ j : Nat, j ≤ n ∧ i = .int .i64 j ∧ BoxS wr z (allP s (l.take j)) ∧ wr.ownsRow w.heap.size 3 1 v j ((statesP s (l.take j)).map lvV) ∧ Below w.heap.size w wr) (fun _ i _ => n - (intOf i).toNat)
  case atStart => exact ⟨0, Nat.zero_le _, rfl, bs0, World.ownsRow_nil _ _ _ _, hB0⟩
  case round =>
    obtain ⟨j, hj, rfl, bs, hrow, hB⟩ := hrel
    clear bs0 hB0
    obtain ⟨k0, k1, k2, k3, k4⟩ := bs.cells
    by_cases hlt : j < n
    · obtain ⟨A5, c5, rfl, _⟩ := own_slice hrow
      have hj2 : (0 : Int) ≤ (j : Int) := by omega
      have hj3 : (j : Int) < (n : Int) := by omega
      have hw1 : IntKind.i64.wrap ((j : Int) + 1) = ((j + 1 : Nat) : Int) := by rw [IntKind.wrap_i64]; omega
      obtain ⟨b, off, e, rfl, hb, he, c0, c1, c2⟩ := (Hl.out.on hB hB.size).at_ hlt
      have hnx : nextP (allP s (l.take j)) e = allP s (l.take (j + 1)) := by rw [take_succ he, all_snoc]
      have Hst := Lib.hid (states_succ s (l := l) (k := j) (by rw [Hll.out]; exact hlt))
      obtain ⟨t, ht⟩ : ∃ t, t = allP s (l.take j) := ⟨_, rfl⟩
      obtain ⟨X, hX⟩ : ∃ X, X = allP s (l.take (j + 1)) := ⟨_, rfl⟩
      rw [← ht] at bs k0 k1 k2 k3 k4 hnx
      rw [← hX] at hnx Hst
      have HX := Lib.hid hX
      have Hnx := Lib.hid hnx
      have HB := Lib.hid (⟨bs, hrow, hB⟩ : _ ∧ _ ∧ _)
      clear ht hX hnx bs hrow hB he hb
      go_upto_region 5 with fail
      go_still_tail 5, (by kernel_rfl)
      change wpList _ _ _ _ _ wr.drew
      go_wp2_with fail
      refine (rnext_any t e _).mono ?_
      rw [Hnx.out]
      rintro r w4 ⟨rfl, hb4⟩
      unfold StP.v
      obtain ⟨bs, hrow, hB⟩ := HB.out
      have hb5 : Below wr.heap.size wr w4 := (below_dr (below_d0 wr)).trans hb4
      have bs4 := bs.below hb5
      have hrow4 := own_below hrow hb5
      have hB4 : Below w.heap.size w w4 := hB.trans (hb5.mono hB.size)
      obtain ⟨f0, f1, f2, f3, f4⟩ := bs4.frozen
      obtain ⟨d0, d1, d2, d3, d4⟩ := bs4.cells
      have H4 := Lib.hid (⟨bs4, hrow4, hB4⟩ : _ ∧ _ ∧ _)
      clear bs hrow hB HB hb4 hb5 bs4 hrow4 hB4 k0 k1 k2 k3 k4 c0 c1 c2
      go_upto_region 6 with fail
      change Code.wp _ _ _ _ (putS w4 z X)
      obtain ⟨bs4, hrow4, hB4⟩ := H4.out
      have bs5 := putS_box bs4 X
      have hB5 := putS_below hB4 Hzw.out X
      have hrow5 : (putS w4 z X).ownsRow w.heap.size 3 1 (.slice A5 j c5) j ((statesP s (l.take j)).map lvV) := hrow4.kept (putS_grown w4 z X) (row_ne hrow4 fun r e => by cases e; exact ⟨_, bs4, .inr ⟨_, _, rfl⟩⟩)
      obtain ⟨w5, hw5⟩ : ∃ w5, w5 = putS w4 z X := ⟨_, rfl⟩
      rw [← hw5] at bs5 hB5 hrow5 ⊢
      clear bs4 hrow4 hB4 H4 f0 f1 f2 f3 f4 d0 d1 d2 d3 d4 hw5
      obtain ⟨k0, k1, k2, k3, k4⟩ := bs5.cells
      have H5 := Lib.hid (⟨bs5, hB5, hrow5⟩ : _ ∧ _ ∧ _)
      clear bs5 hB5 hrow5
      go_wp2_with (at_builtin; refine hold ?_)
      obtain ⟨bs5, hB5, hrow5⟩ := H5.out
      refine unhold (wpList_append (.tmp 19) (.tmp 22) 35 Try.underlying35 hi hz0 hz1 hz2 (by rfl) (by omega) (base := w.heap.size) (v := .slice A5 j c5) (n := j) (m := 1) (hrow5.alloc _) (Source.one (size := 1) (cs := [.int .i64 X.lv]) rfl (by simp [Value.oneCell']) rfl) (by unfold maxLen; omega) (by omega) (by have := hB5.size; simp; omega) rfl rfl rfl rfl ?_)
      intro v1 w6 L6
      have b56 : Below w5.heap.size w5 (w5.alloc (.cells #[.int .i64 X.lv] 3)) := (Below.refl _ _).alloc (Nat.le_refl _) _
      have hB6 : Below w.heap.size w w6 := L6.below (hB5.trans (b56.mono hB5.size)) (Nat.le_trans hB5.size b56.size) (fun g hg => (hrow5.lt g hg).1)
      have bs6 : BoxS w6 z X := by
        refine (L6.2.1.block z (Nat.lt_of_lt_of_le bs5.lt b56.size) (fun e => ?_)).trans (bs5.below b56)
        rcases hrow5.2 with ⟨hv, _⟩ | ⟨g, cap, cur, hv, _, hg, _⟩
        · rw [hv] at e; cases e
        · rw [hv] at e
          simp only [Value.ownBlock, Option.some.injEq] at e
          subst e
          rw [show w5.heap[z]? = _ from bs5] at hg
          cases hg
      have H6 := Lib.hid (⟨hB6, bs6, L6.1⟩ : _ ∧ _ ∧ _)
      clear hB6 bs6 L6 b56 bs5 hB5 hrow5 H5 k0 k1 k2 k3 k4
      go_wp2_with fail
      go_roundw
      case rel =>
        obtain ⟨hB6, bs6, hrow6⟩ := H6.out
        refine ⟨j + 1, by omega, by go_num, by rw [← HX.out]; exact bs6, ?_, hB6⟩
        rw [Hst.out, List.map_append]
        exact hrow6
      case measure => simp [intOf]; omega
    · obtain rfl : j = n := by omega
      have hrow' := hrow
      rw [Hall.out] at hrow'
      obtain ⟨A', c', rfl, hc', hrd⟩ := own_rd hrow'
      have Hf := Lib.hid (⟨hc', hrd, hB⟩ : _ ∧ _ ∧ _)
      clear Hall bs hrow hrow' hB hrd hc' k0 k1 k2 k3 k4
      go_wp2_with fail
      go_ret
      exact ⟨⟨A', j, c', rfl, Hf.out.1, by rw [levels_len, Hll.out], Hf.out.2.1⟩, Hf.out.2.2⟩

end Go.Proofs.Ytbaaghggilfpjaa
