/-
  crc.halves and its iterator: their contracts.
-/
import Derived.RangeFuncNested
import Derived.RangeFuncBound
import Derived.RangeFuncCalls
import Derived.RangeFuncLeaves
import Derived.RangeFuncBox
import Derived.Shelf.Abstract
import Derived.Shelf.RegionOpen
import Derived.OwnWalkIn
import Derived.TacticsInMore
import Derived.LoopNIn
import Derived.LoopIn
import Derived.Test.YtnojphkfniimgaaDoorCrcA
import Derived.Test.YtnojphkfniimgaaDoorMarks
namespace Go.Proofs.YtnojphkfniimgaaDoor
open Go.RowKit Go.Shelf

attribute [local go_sem] Oper.semAt_some

/-- Half a byte, as it is handed over (of what is none: its rest, so that one is handed over always). -/
abbrev encs (x : Int) : Array Value := #[.int .u8 (x % 16)]
theorem u8_and15 {z : Int} (hz : 0 ≤ z ∧ z ≤ 255) : bits .and .u8 z 15 = z % 16 := by
  obtain ⟨m, rfl⟩ : ∃ m : Nat, z = (m : Int) := ⟨z.toNat, by omega⟩
  show IntKind.u8.wrap ((BitVec.ofInt 8 (m : Int) &&& BitVec.ofInt 8 ((15 : Nat) : Int)).toNat : Int) = _
  have e1 : ∀ a : Nat, a < 256 → (BitVec.ofInt 8 (a : Int)).toNat = a := fun a ha => by
    rw [BitVec.ofInt_natCast, BitVec.toNat_ofNat]
    omega
  rw [BitVec.toNat_and, e1 m (by omega), e1 15 (by omega), IntKind.wrap_u8, show (15 : Nat) = 2 ^ 4 - 1 from rfl, Nat.and_two_pow_sub_one_eq_mod]
  omega
/-- What a round must leave alone: the box that the iterator reads. -/
def Kp1 (s : Nat) (A B : World) : Prop := B.heap[s]? = A.heap[s]?
theorem Kp1.refl (s : Nat) (A : World) : Kp1 s A A := rfl
theorem Kp1.trans {s : Nat} {A B C : World} (h : Kp1 s A B) (k : Kp1 s B C) : Kp1 s A C := Eq.trans k h

set_option maxRecDepth 100000 in
set_option maxHeartbeats 2000000 in
theorem halves_in (l s : Nat) {b : Int} (hb : 0 ≤ b ∧ b ≤ 255) (J Jx : List Int → World → Prop)
    (hY : ∀ pre x W, J pre W → pre.length < 2 → YieldAt Fence.wide 2 Tryd.prog l (encs x) W fun e W' =>
      (e = .returned (.bool true) ∧ J (pre ++ [x]) W' ∧ Kp1 s W W') ∨ (e = .returned (.bool false) ∧ Jx (pre ++ [x]) W'))
    (W : World) (hcs : W.cell? ⟨s, 0, none⟩ = some (.int .u8 b)) (h0 : J [] W) :
    CallsIn Fence.wide 3 Tryd.prog 25 #[.func (.yield l) #[] #[], .pointer (some ⟨s, 0, none⟩)] W fun e W' => (∃ v, e = .returned v) ∧
      ((∃ ys, ys = [b, b / 16] ∧ J ys W') ∨ (∃ pre, True ∧ Jx pre W')) := by
  have hd : b / 16 % 16 = b / 16 := by omega
  refine callsIn_of_wp Tryd.func25 rfl trivial ?_ rfl
  simp only [Tryd.ntmps25, List.size_toArray, List.length_cons, List.length_nil, Nat.reduceAdd, Nat.reduceSub, Array.replicate_succ, Array.replicate_zero, List.push_toArray, List.append_toArray, List.nil_append, List.cons_append]
  obtain ⟨fn, tmps, assign, body, hy, hR⟩ := hY [] b W h0 (by simp)
  dsimp only [encs] at hy
  gi_wp2
  refine hR.mono ?_
  rintro e W3 (⟨rfl, hJ3, hk3⟩ | ⟨rfl, hJx3⟩)
  · have hcs3 := (World.cell?_of_block (a := ⟨s, 0, none⟩) hk3).trans hcs
    obtain ⟨fn2, tmps2, assign2, body2, hy2, hR2⟩ := hY _ (b / 16) W3 hJ3 (by simp)
    dsimp only [encs] at hy2
    rw [hd] at hy2
    gi_wp2
    refine hR2.mono ?_
    rintro e W4 (⟨rfl, hJ4, hk4⟩ | ⟨rfl, hJx4⟩)
    · gi_wp2
      go_end0
      exact ⟨⟨_, rfl⟩, .inl ⟨_, rfl, hJ4⟩⟩
    · gi_wp2
      go_end0
      exact ⟨⟨_, rfl⟩, .inr ⟨_, trivial, hJx4⟩⟩
  · gi_wp2
    go_end0
    exact ⟨⟨_, rfl⟩, .inr ⟨_, trivial, hJx3⟩⟩

/-- The iterator's contract. -/
theorem halves_stops (s : Nat) {b : Int} (hb : 0 ≤ b ∧ b ≤ 255) (w : World) (hs : Boxed w s 5 (.int .u8 b)) :
    SeqStopsK Fence.wide 3 Tryd.prog 25 #[.pointer (some ⟨s, 0, none⟩)] encs (Kp1 s)
      (fun ys => ys = [b, b / 16]) (fun _ => True) 2 w := fun l J Jx W hW _ _ hY h0 =>
  halves_in l s hb J Jx hY W ((hW.cell (p := ⟨s, 0, none⟩) hs.lt).trans hs.cell) h0

/-- What halves answers. -/
def HalvesOut (b : Int) (w : World) (e : Ending) (w' : World) : Prop :=
  e = .returned (.func (.func 25) #[] #[.pointer (some ⟨w.heap.size, 0, none⟩)]) ∧ Boxed w' w.heap.size 5 (.int .u8 b) ∧ w'.heap.size = w.heap.size + 1 ∧ Below w.heap.size w w'
set_option maxRecDepth 100000 in
set_option maxHeartbeats 400000 in
theorem halves_any (b : Int) (w : World) : Calls Tryd.prog 24 #[.int .u8 b] w (HalvesOut b w) := by
  go_enter Tryd.func24, Tryd.ntmps24
  go_wp2
  go_ret
  exact ⟨rfl, Boxed.new w _ _, by simp, (Below.refl _ w).alloc (Nat.le_refl _) _⟩

end Go.Proofs.YtnojphkfniimgaaDoor
