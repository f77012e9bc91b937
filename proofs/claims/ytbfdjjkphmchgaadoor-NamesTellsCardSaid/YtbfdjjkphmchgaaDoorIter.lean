/-
  names.calls and its iterator: their contracts.
-/
import Derived.Test.YtbfdjjkphmchgaaDoorFileN
import Derived.Test.YtbfdjjkphmchgaaDoorScope
import Derived.Test.YtbfdjjkphmchgaaDoorRangeP
import Derived.Test.YtbfdjjkphmchgaaDoorMarks
namespace Go.Proofs.YtbfdjjkphmchgaaDoor
open Go.RowKit Go.Shelf

attribute [local go_sem] Oper.semAt_some

/-- A place and a name, as they are handed over. -/
abbrev encC (x : Nat × ByteArray) : Array Value := #[.int .i64 (x.1 : Int), .string x.2]

set_option maxRecDepth 100000 in
set_option maxHeartbeats 2000000 in
theorem calls_in (l0 s B0 : Nat) {A : Option Addr} {n c : Nat} {l : List FlP} (hn : n ≤ 140737488355328) (J Jx : List (Nat × ByteArray) → World → Prop) (W : World) (hJ : StaysT 46 W.heap.size J)
    (hY : ∀ pre x W1, J pre W1 → pre ++ [x] <+: callsP l → YieldAt Fence.wide 2 Tryd.prog l0 (encC x) W1 fun e W' =>
      (e = .returned (.bool true) ∧ J (pre ++ [x]) W' ∧ KpL B0 W1 W') ∨ (e = .returned (.bool false) ∧ Jx (pre ++ [x]) W'))
    (hcs : W.cell? ⟨s, 0, none⟩ = some (.slice A n c)) (hr : Fl W B0 A n l) (hB0 : B0 ≤ W.heap.size) (h0 : J [] W) :
    CallsIn Fence.wide 3 Tryd.prog 37 #[.func (.yield l0) #[] #[], .pointer (some ⟨s, 0, none⟩)] W fun e W' => (∃ v, e = .returned v) ∧
      ((∃ ys, ys = callsP l ∧ J ys W') ∨ (∃ pre, Jx pre W')) := by
  have Hl := Lib.hid hr.1
  have Hr := Lib.hid (⟨hr, hB0⟩ : _ ∧ _)
  have HJ := Lib.hid hJ
  have HY := Lib.hid hY
  clear hr hB0 hJ hY
  refine callsIn_of_wp Tryd.func37 rfl trivial ?_ rfl
  simp only [Tryd.ntmps37, List.size_toArray, List.length_cons, List.length_nil, Nat.reduceAdd, Nat.reduceSub, Array.replicate_succ, Array.replicate_zero, List.push_toArray, List.append_toArray, List.nil_append, List.cons_append]
  gi_wp2_with fail
  gi_loopw [7] (fun i wr => ∃ (k : Nat), k ≤ n ∧ i = .int .i64 k ∧ J (callsP (l.take k)) wr ∧ KpL B0 W wr) (fun i _ => n - (intOf i).toNat)
  case atStart => exact ⟨0, Nat.zero_le _, rfl, h0, KpL.refl _ _⟩
  case round =>
    obtain ⟨k, hk, rfl, hj, hB⟩ := hrel
    by_cases hlt : k < n
    · obtain ⟨b, off, f, rfl, hb, hf, c0, c1⟩ := Fl.get (Hr.out.1.low hB) hlt
      obtain ⟨w2, hw2⟩ : ∃ w2, w2 = wr.alloc (.cells #[.string f.name, .slice f.A f.n f.c] 46) := ⟨_, rfl⟩
      have hlen : callsP (l.take k) ++ [(k, f.name)] <+: callsP l := by rw [← calls_succ hf]; exact calls_prefix _ _
      have hj2 : J (callsP (l.take k)) w2 := by rw [hw2]; exact HJ.out _ wr _ none hj (World.grownBy_alloc wr _ none) (fun r e => by cases e)
      have hB2 : KpL B0 W w2 := hB.trans (by rw [hw2]; exact KpL.below ((Below.refl _ _).alloc (Nat.le_refl _) _) (hB.size Hr.out.2))
      obtain ⟨fn, tmps, assign, body, hy, hR⟩ := HY.out _ (k, f.name) w2 hj2 hlen
      have Hs := Lib.hid (calls_succ hf)
      have Hb2 := Lib.hid (⟨hB2, hw2⟩ : _ ∧ _)
      dsimp only [encC] at hy
      rw [hw2] at hy
      clear hf hB2 hj hj2 hlen hB hcs h0
      gi_wp2_with fail
      rw [← Hb2.out.2]
      refine hR.mono ?_
      rintro e W3 (⟨rfl, hJ3, hk3⟩ | ⟨rfl, hJx3⟩)
      · gi_wp2_with fail
        go_roundw
        case rel => exact ⟨k + 1, by omega, by go_num, by rw [Hs.out]; exact hJ3, Hb2.out.1.trans hk3⟩
        case measure => simp [intOf]; omega
      · gi_wp2_with fail
        refine bodyPost_ret (results_none rfl _ _ _) rfl ?_
        exact ⟨⟨_, rfl⟩, .inr ⟨_, hJx3⟩⟩
    · obtain rfl : k = n := by omega
      rw [List.take_of_length_le (show l.length ≤ k by rw [Hl.out]; exact Nat.le_refl _)] at hj
      clear hcs h0
      gi_wp2_with fail
      go_end0
      exact ⟨⟨_, rfl⟩, .inl ⟨_, rfl, hj⟩⟩

/-- The iterator's contract. -/
theorem calls_seq (s B0 : Nat) {A : Option Addr} {n c : Nat} {l : List FlP} (hn : n ≤ 140737488355328) (w : World) (hB : B0 ≤ w.heap.size) (hs : Boxed w s 24 (.slice A n c)) (hr : Fl w B0 A n l) :
    SeqP 46 Fence.wide 3 Tryd.prog 37 #[.pointer (some ⟨s, 0, none⟩)] encC (KpL B0) (fun ys => ys = callsP l) (fun pre => pre <+: callsP l) w := fun l0 J Jx W hW hJ _ hY h0 =>
  calls_in l0 s B0 hn J Jx W hJ hY ((hW.cell (p := ⟨s, 0, none⟩) hs.lt).trans hs.cell) (hr.low fun k hk => hW.block k (by omega)) (Nat.le_trans hB hW.size) h0

/-- What calls answers. -/
def CallsOut (A : Option Addr) (n c : Nat) (w : World) (e : Ending) (w' : World) : Prop :=
  e = .returned (.func (.func 37) #[] #[.pointer (some ⟨w.heap.size, 0, none⟩)]) ∧ Boxed w' w.heap.size 24 (.slice A n c) ∧ w'.heap.size = w.heap.size + 1 ∧ Below w.heap.size w w'
set_option maxRecDepth 100000 in
set_option maxHeartbeats 400000 in
theorem calls_any (A : Option Addr) (n c : Nat) (w : World) : Calls Tryd.prog 29 #[.slice A n c] w (CallsOut A n c w) := by
  go_enter Tryd.func29, Tryd.ntmps29
  go_wp2
  go_ret
  exact ⟨rfl, Boxed.new w _ _, by simp, (Below.refl _ w).alloc (Nat.le_refl _) _⟩

end Go.Proofs.YtbfdjjkphmchgaaDoor
