/-
  num.digits's iterator: its contract.
-/
import Derived.RangeFuncNested
import Derived.RangeFuncBound
import Derived.RangeFuncCalls
import Derived.RangeFuncLeaves
import Derived.Shelf.Abstract
import Derived.Shelf.RegionOpen
import Derived.OwnWalkIn
import Derived.TacticsInMore
import Derived.LoopNIn
import Derived.LoopIn
import Derived.Laws.BitsAllLaws
import Derived.Laws.BitsLemmas
import Derived.Test.YtbpinikldcakfaaDigits
import Derived.Outline
namespace Go.Proofs.Ytbpinikldcakfaa
open Go.RowKit Go.Shelf

attribute [local go_sem] Oper.semAt_some

/-- What 64 bits hold of a number that is not below 0. -/
theorem bits_nat (a : Nat) (ha : a < 9223372036854775808) : (BitVec.ofInt 64 (a : Int)).toNat = a := by
  rw [BitVec.ofInt_natCast, BitVec.toNat_ofNat]
  omega
theorem i64_and_nat (a b : Nat) (ha : a < 9223372036854775808) (hb : b < 9223372036854775808) : bits .and .i64 (a : Int) (b : Int) = ((a &&& b : Nat) : Int) := by
  have hx : a &&& b ≤ a := Nat.and_le_left
  show IntKind.i64.wrap ((BitVec.ofInt 64 (a : Int) &&& BitVec.ofInt 64 (b : Int)).toNat : Int) = _
  rw [BitVec.toNat_and, bits_nat a ha, bits_nat b hb, IntKind.wrap_i64]
  omega
theorem i64_and_low (x : Int) (h0 : 0 ≤ x) (h1 : x ≤ 1073741824) : bits .and .i64 x 127 = x % 128 ∧ bits .and .i64 x 255 = x % 256 := by
  have e1 := i64_and_nat x.toNat 127 (by omega) (by omega)
  have e2 := i64_and_nat x.toNat 255 (by omega) (by omega)
  rw [show ((x.toNat : Nat) : Int) = x by omega] at e1 e2
  have e3 : x.toNat &&& 127 = x.toNat % 128 := Nat.and_two_pow_sub_one_eq_mod x.toNat 7
  have e4 : x.toNat &&& 255 = x.toNat % 256 := Nat.and_two_pow_sub_one_eq_mod x.toNat 8
  rw [e3] at e1
  rw [e4] at e2
  exact ⟨e1.trans (by omega), e2.trans (by omega)⟩
abbrev encs (p : Int × Int) : Array Value := #[.int .i64 p.1, .int .u8 p.2]

/-- What a round must leave alone: the three boxes that the iterator reads. -/
def Kp3 (bm bn bw : Nat) (A B : World) : Prop := B.heap[bm]? = A.heap[bm]? ∧ B.heap[bn]? = A.heap[bn]? ∧ B.heap[bw]? = A.heap[bw]?
theorem Kp3.refl (bm bn bw : Nat) (A : World) : Kp3 bm bn bw A A := ⟨rfl, rfl, rfl⟩
theorem Kp3.trans {bm bn bw : Nat} {A B C : World} (h : Kp3 bm bn bw A B) (k : Kp3 bm bn bw B C) : Kp3 bm bn bw A C := ⟨k.1.trans h.1, k.2.1.trans h.2.1, k.2.2.trans h.2.2⟩
theorem Kp3.drew {bm bn bw : Nat} {A B : World} (h : Kp3 bm bn bw A B) : Kp3 bm bn bw A B.drew := h

set_option maxRecDepth 100000 in
set_option maxHeartbeats 2000000 in
theorem iter_in (l bm bn bw m width : Nat) (n : Int) (hn : 0 ≤ n ∧ n ≤ 1073741824) (hw : width = 7 ∨ width = 8) (hm : 1 ≤ m ∧ m ≤ 5) (J Jx : List (Int × Int) → World → Prop)
    (hJd : ∀ pre W, J pre W → J pre W.drew) (hY : ∀ pre x W, J pre W → pre.length < m → YieldAt Fence.wide 2 Try.prog l (encs x) W fun e W' =>
      (e = .returned (.bool true) ∧ J (pre ++ [x]) W' ∧ Kp3 bm bn bw W W') ∨ (e = .returned (.bool false) ∧ Jx (pre ++ [x]) W'))
    (W : World) (hcm : W.cell? ⟨bm, 0, none⟩ = some (.int .i64 m)) (hcn : W.cell? ⟨bn, 0, none⟩ = some (.int .i64 n)) (hcw : W.cell? ⟨bw, 0, none⟩ = some (.int .i64 width)) (h0 : J [] W) :
    CallsIn Fence.wide 3 Try.prog 27 #[.func (.yield l) #[] #[], .pointer (some ⟨bm, 0, none⟩), .pointer (some ⟨bn, 0, none⟩), .pointer (some ⟨bw, 0, none⟩)] W fun e W' => (∃ v, e = .returned v) ∧
      ((∃ ys, ys = upTo (roundAt n width m) m ∧ J ys W') ∨ (∃ pre, True ∧ Jx pre W')) := by
  refine callsIn_of_wp Try.func27 rfl trivial ?_ rfl
  simp only [Try.ntmps27, List.size_toArray, List.length_cons, List.length_nil, Nat.reduceAdd, Nat.reduceSub, Array.replicate_succ, Array.replicate_zero, List.push_toArray, List.append_toArray, List.nil_append, List.cons_append]
  gi_wp2
  gi_loopw [5] (fun i wr => ∃ (k r : Nat), k + r = m ∧ i = .int .i64 ((r : Int) - 1) ∧ J (upTo (roundAt n width m) k) wr ∧ Kp3 bm bn bw W wr)
    (fun i _ => (intOf i + 1).toNat)
  case atStart => exact ⟨0, m, by omega, rfl, h0, Kp3.refl _ _ _ _⟩
  case round =>
    obtain ⟨k, r, hk, rfl, hJs, hnx⟩ := hrel
    have mixed : Try.prog.follows .mixedOrders = true := by kernel_rfl
    by_cases hlt : 0 < r
    · have hcn' := (World.cell?_of_block (a := ⟨bn, 0, none⟩) hnx.2.1).trans hcn
      have hcw' := (World.cell?_of_block (a := ⟨bw, 0, none⟩) hnx.2.2).trans hcw
      have hJd' := hJd _ _ hJs
      rcases hw with rfl | rfl
      all_goals
        rcases (by omega : r = 1 ∨ r = 2 ∨ r = 3 ∨ r = 4 ∨ r = 5) with rfl | rfl | rfl | rfl | rfl
      · have Hx : Hid (roundAt n 7 m k = (0, n % 128)) := Lib.hid (roundAt_of 0 (by omega) (by simp))
        have hb := (i64_and_low (n) (by omega) (by omega)).1
        obtain ⟨fn, tmps, assign, body, hy, hR⟩ := hY _ (0, n % 128) _ hJd' (by rw [upTo_length]; omega)
        dsimp only [encs] at hy
        gi_wp2
        gi_region_o
        gi_wp2
        refine hR.mono ?_
        rintro e W3 (⟨rfl, hJ3, hk3⟩ | ⟨rfl, hJx3⟩)
        · gi_wp2
          go_roundw
          case rel => exact ⟨k + 1, 0, by omega, by simp, by rw [upTo_succ, Hx.out]; exact hJ3, (hnx.drew).trans hk3⟩
          case measure => simp [intOf]
        · gi_wp2
          refine bodyPost_ret (results_none rfl _ _ _) rfl ?_
          exact ⟨⟨_, rfl⟩, .inr ⟨_, trivial, hJx3⟩⟩
      · have Hx : Hid (roundAt n 7 m k = (1, n / 128 % 128)) := Lib.hid (roundAt_of 1 (by omega) (by simp))
        have hb := (i64_and_low (n / 128) (by omega) (by omega)).1
        obtain ⟨fn, tmps, assign, body, hy, hR⟩ := hY _ (1, n / 128 % 128) _ hJd' (by rw [upTo_length]; omega)
        dsimp only [encs] at hy
        gi_wp2
        gi_region_o
        gi_wp2
        refine hR.mono ?_
        rintro e W3 (⟨rfl, hJ3, hk3⟩ | ⟨rfl, hJx3⟩)
        · gi_wp2
          go_roundw
          case rel => exact ⟨k + 1, 1, by omega, by simp, by rw [upTo_succ, Hx.out]; exact hJ3, (hnx.drew).trans hk3⟩
          case measure => simp [intOf]
        · gi_wp2
          refine bodyPost_ret (results_none rfl _ _ _) rfl ?_
          exact ⟨⟨_, rfl⟩, .inr ⟨_, trivial, hJx3⟩⟩
      · have Hx : Hid (roundAt n 7 m k = (2, n / 16384 % 128)) := Lib.hid (roundAt_of 2 (by omega) (by simp))
        have hb := (i64_and_low (n / 16384) (by omega) (by omega)).1
        obtain ⟨fn, tmps, assign, body, hy, hR⟩ := hY _ (2, n / 16384 % 128) _ hJd' (by rw [upTo_length]; omega)
        dsimp only [encs] at hy
        gi_wp2
        gi_region_o
        gi_wp2
        refine hR.mono ?_
        rintro e W3 (⟨rfl, hJ3, hk3⟩ | ⟨rfl, hJx3⟩)
        · gi_wp2
          go_roundw
          case rel => exact ⟨k + 1, 2, by omega, by simp, by rw [upTo_succ, Hx.out]; exact hJ3, (hnx.drew).trans hk3⟩
          case measure => simp [intOf]
        · gi_wp2
          refine bodyPost_ret (results_none rfl _ _ _) rfl ?_
          exact ⟨⟨_, rfl⟩, .inr ⟨_, trivial, hJx3⟩⟩
      · have Hx : Hid (roundAt n 7 m k = (3, n / 2097152 % 128)) := Lib.hid (roundAt_of 3 (by omega) (by simp))
        have hb := (i64_and_low (n / 2097152) (by omega) (by omega)).1
        obtain ⟨fn, tmps, assign, body, hy, hR⟩ := hY _ (3, n / 2097152 % 128) _ hJd' (by rw [upTo_length]; omega)
        dsimp only [encs] at hy
        gi_wp2
        gi_region_o
        gi_wp2
        refine hR.mono ?_
        rintro e W3 (⟨rfl, hJ3, hk3⟩ | ⟨rfl, hJx3⟩)
        · gi_wp2
          go_roundw
          case rel => exact ⟨k + 1, 3, by omega, by simp, by rw [upTo_succ, Hx.out]; exact hJ3, (hnx.drew).trans hk3⟩
          case measure => simp [intOf]
        · gi_wp2
          refine bodyPost_ret (results_none rfl _ _ _) rfl ?_
          exact ⟨⟨_, rfl⟩, .inr ⟨_, trivial, hJx3⟩⟩
      · have Hx : Hid (roundAt n 7 m k = (4, n / 268435456 % 128)) := Lib.hid (roundAt_of 4 (by omega) (by simp))
        have hb := (i64_and_low (n / 268435456) (by omega) (by omega)).1
        obtain ⟨fn, tmps, assign, body, hy, hR⟩ := hY _ (4, n / 268435456 % 128) _ hJd' (by rw [upTo_length]; omega)
        dsimp only [encs] at hy
        gi_wp2
        gi_region_o
        gi_wp2
        refine hR.mono ?_
        rintro e W3 (⟨rfl, hJ3, hk3⟩ | ⟨rfl, hJx3⟩)
        · gi_wp2
          go_roundw
          case rel => exact ⟨k + 1, 4, by omega, by simp, by rw [upTo_succ, Hx.out]; exact hJ3, (hnx.drew).trans hk3⟩
          case measure => simp [intOf]
        · gi_wp2
          refine bodyPost_ret (results_none rfl _ _ _) rfl ?_
          exact ⟨⟨_, rfl⟩, .inr ⟨_, trivial, hJx3⟩⟩
      · have Hx : Hid (roundAt n 8 m k = (0, n % 256)) := Lib.hid (roundAt_of 0 (by omega) (by simp))
        have hb := (i64_and_low (n) (by omega) (by omega)).2
        obtain ⟨fn, tmps, assign, body, hy, hR⟩ := hY _ (0, n % 256) _ hJd' (by rw [upTo_length]; omega)
        dsimp only [encs] at hy
        gi_wp2
        gi_region_o
        gi_wp2
        refine hR.mono ?_
        rintro e W3 (⟨rfl, hJ3, hk3⟩ | ⟨rfl, hJx3⟩)
        · gi_wp2
          go_roundw
          case rel => exact ⟨k + 1, 0, by omega, by simp, by rw [upTo_succ, Hx.out]; exact hJ3, (hnx.drew).trans hk3⟩
          case measure => simp [intOf]
        · gi_wp2
          refine bodyPost_ret (results_none rfl _ _ _) rfl ?_
          exact ⟨⟨_, rfl⟩, .inr ⟨_, trivial, hJx3⟩⟩
      · have Hx : Hid (roundAt n 8 m k = (1, n / 256 % 256)) := Lib.hid (roundAt_of 1 (by omega) (by simp))
        have hb := (i64_and_low (n / 256) (by omega) (by omega)).2
        obtain ⟨fn, tmps, assign, body, hy, hR⟩ := hY _ (1, n / 256 % 256) _ hJd' (by rw [upTo_length]; omega)
        dsimp only [encs] at hy
        gi_wp2
        gi_region_o
        gi_wp2
        refine hR.mono ?_
        rintro e W3 (⟨rfl, hJ3, hk3⟩ | ⟨rfl, hJx3⟩)
        · gi_wp2
          go_roundw
          case rel => exact ⟨k + 1, 1, by omega, by simp, by rw [upTo_succ, Hx.out]; exact hJ3, (hnx.drew).trans hk3⟩
          case measure => simp [intOf]
        · gi_wp2
          refine bodyPost_ret (results_none rfl _ _ _) rfl ?_
          exact ⟨⟨_, rfl⟩, .inr ⟨_, trivial, hJx3⟩⟩
      · have Hx : Hid (roundAt n 8 m k = (2, n / 65536 % 256)) := Lib.hid (roundAt_of 2 (by omega) (by simp))
        have hb := (i64_and_low (n / 65536) (by omega) (by omega)).2
        obtain ⟨fn, tmps, assign, body, hy, hR⟩ := hY _ (2, n / 65536 % 256) _ hJd' (by rw [upTo_length]; omega)
        dsimp only [encs] at hy
        gi_wp2
        gi_region_o
        gi_wp2
        refine hR.mono ?_
        rintro e W3 (⟨rfl, hJ3, hk3⟩ | ⟨rfl, hJx3⟩)
        · gi_wp2
          go_roundw
          case rel => exact ⟨k + 1, 2, by omega, by simp, by rw [upTo_succ, Hx.out]; exact hJ3, (hnx.drew).trans hk3⟩
          case measure => simp [intOf]
        · gi_wp2
          refine bodyPost_ret (results_none rfl _ _ _) rfl ?_
          exact ⟨⟨_, rfl⟩, .inr ⟨_, trivial, hJx3⟩⟩
      · have Hx : Hid (roundAt n 8 m k = (3, n / 16777216 % 256)) := Lib.hid (roundAt_of 3 (by omega) (by simp))
        have hb := (i64_and_low (n / 16777216) (by omega) (by omega)).2
        obtain ⟨fn, tmps, assign, body, hy, hR⟩ := hY _ (3, n / 16777216 % 256) _ hJd' (by rw [upTo_length]; omega)
        dsimp only [encs] at hy
        gi_wp2
        gi_region_o
        gi_wp2
        refine hR.mono ?_
        rintro e W3 (⟨rfl, hJ3, hk3⟩ | ⟨rfl, hJx3⟩)
        · gi_wp2
          go_roundw
          case rel => exact ⟨k + 1, 3, by omega, by simp, by rw [upTo_succ, Hx.out]; exact hJ3, (hnx.drew).trans hk3⟩
          case measure => simp [intOf]
        · gi_wp2
          refine bodyPost_ret (results_none rfl _ _ _) rfl ?_
          exact ⟨⟨_, rfl⟩, .inr ⟨_, trivial, hJx3⟩⟩
      · have Hx : Hid (roundAt n 8 m k = (4, n / 4294967296 % 256)) := Lib.hid (roundAt_of 4 (by omega) (by simp))
        have hb := (i64_and_low (n / 4294967296) (by omega) (by omega)).2
        obtain ⟨fn, tmps, assign, body, hy, hR⟩ := hY _ (4, n / 4294967296 % 256) _ hJd' (by rw [upTo_length]; omega)
        dsimp only [encs] at hy
        gi_wp2
        gi_region_o
        gi_wp2
        refine hR.mono ?_
        rintro e W3 (⟨rfl, hJ3, hk3⟩ | ⟨rfl, hJx3⟩)
        · gi_wp2
          go_roundw
          case rel => exact ⟨k + 1, 4, by omega, by simp, by rw [upTo_succ, Hx.out]; exact hJ3, (hnx.drew).trans hk3⟩
          case measure => simp [intOf]
        · gi_wp2
          refine bodyPost_ret (results_none rfl _ _ _) rfl ?_
          exact ⟨⟨_, rfl⟩, .inr ⟨_, trivial, hJx3⟩⟩
    · obtain rfl : r = 0 := by omega
      gi_wp2
      go_end0
      exact ⟨⟨_, rfl⟩, .inl ⟨_, by rw [show m = k by omega], hJs⟩⟩

/-- The iterator's contract. -/
theorem iter_stops (bm bn bw m width : Nat) (n : Int) (hn : 0 ≤ n ∧ n ≤ 1073741824) (hw : width = 7 ∨ width = 8) (hm : 1 ≤ m ∧ m ≤ 5) (w : World)
    (hbm : Boxed w bm 3 (.int .i64 m)) (hbn : Boxed w bn 3 (.int .i64 n)) (hbw : Boxed w bw 3 (.int .i64 width)) :
    SeqStopsK Fence.wide 3 Try.prog 27 #[.pointer (some ⟨bm, 0, none⟩), .pointer (some ⟨bn, 0, none⟩), .pointer (some ⟨bw, 0, none⟩)] encs (Kp3 bm bn bw)
      (fun ys => ys = upTo (roundAt n width m) m) (fun _ => True) m w := fun l J Jx W hW hJ _ hY h0 =>
  iter_in l bm bn bw m width n hn hw hm J Jx (fun pre X h => hJ pre X X.drew none h ⟨rfl, rfl, rfl, Nat.le_refl _, fun _ _ _ => rfl⟩ (fun r e => by cases e)) hY W
    ((hW.cell (p := ⟨bm, 0, none⟩) hbm.lt).trans hbm.cell) ((hW.cell (p := ⟨bn, 0, none⟩) hbn.lt).trans hbn.cell) ((hW.cell (p := ⟨bw, 0, none⟩) hbw.lt).trans hbw.cell) h0

end Go.Proofs.Ytbpinikldcakfaa
