/-
  slices.Chunk of ints and its iterator, told with whatever a round keeps.
-/
import Derived.Test.YtafeadplmcoilaaDoorNumM
import Derived.Test.YtafeadplmcoilaaDoorRow
import Derived.Test.YtafeadplmcoilaaDoorNumT
import Derived.Test.YtafeadplmcoilaaDoorScope
import Derived.Test.YtafeadplmcoilaaDoorMarks
import Derived.Test.YtafeadplmcoilaaDoorRangeW
import Derived.Laws.Slices
import Derived.Laws.Small
import Derived.StillTailTactics
import Derived.WalkSpells
import Derived.Test.YtafeadplmcoilaaDoorStillIn
namespace Go.Proofs.YtafeadplmcoilaaDoor
open Go.RowKit Go.Shelf
set_option linter.unusedVariables false

attribute [local go_sem] Oper.semAt_some

/-! ### Rows of k -/
def chunks {α : Type} (k : Nat) (l : List α) : List (List α) := if h : l = [] ∨ k = 0 then [] else l.take k :: chunks k (l.drop k)
termination_by l.length
decreasing_by
  rw [List.length_drop]
  have : 0 < l.length := List.length_pos_iff.2 (fun e => h (.inl e))
  have : k ≠ 0 := fun e => h (.inr e)
  omega
theorem chunks_nil {α : Type} (k : Nat) : chunks k ([] : List α) = [] := by rw [chunks]; simp
theorem chunks_cons {α : Type} {k : Nat} {l : List α} (h : l ≠ []) (hk : k ≠ 0) : chunks k l = l.take k :: chunks k (l.drop k) := by
  rw [chunks, dif_neg (by rintro (h' | h'); exact h h'; exact hk h')]

/-! ### Pieces of a row -/
theorem cut_piece {P : Program} {t e : TypeId} {i : TypeInfo} {m : Nat} (ht : P.underlying t = some (.slice e)) (hi : P.info? e = some i) (hm : i.size = m) (A : Option Addr) (n c k q E : Nat) (hE : E = k + q) (hq : k + q ≤ n) (hnc : n ≤ c) (h0 : 0 < q) :
    (∀ W : World, (Instr.slice t (.slice A n c) (some (.int .i64 (k : Int))) (some (.int .i64 (E : Int))) (some (.int .i64 (E : Int)))).run P W = .ok (.slice (A.map (·.add (k * m))) q q) W) := by
  have he : P.elem t = e := by simp [Program.elem, ht]
  have hu : P.underlying t = some (.slice (P.elem t)) := by rw [he]; exact ht
  intro W
  rw [run_slice_lhm W t A n c hu .i64 .i64 .i64 (k : Int) (E : Int) (E : Int) (by omega) (by omega) (by omega) (by omega), he]
  have e1 : E - k = q := by omega
  have e2 : ¬ E = k := by omega
  simp [sizeOf, run_typeInfo, hi, hm, sliced, go_sem, e1, e2]
theorem cut_from {P : Program} {t e : TypeId} {i : TypeInfo} {m : Nat} (ht : P.underlying t = some (.slice e)) (hi : P.info? e = some i) (hm : i.size = m) (A : Option Addr) (n c k : Nat) (hk : k ≤ n) :
    ∃ A', (∀ W : World, (Instr.slice t (.slice A n c) (some (.int .i64 (k : Int))) none none).run P W = .ok (.slice A' (n - k) (c - k)) W) ∧ (¬ c = k → A' = A.map (·.add (k * m))) := by
  have he : P.elem t = e := by simp [Program.elem, ht]
  have hu : P.underlying t = some (.slice (P.elem t)) := by rw [he]; exact ht
  refine ⟨if c = k then A else A.map (·.add (k * m)), fun W => ?_, fun h => if_neg h⟩
  rw [run_slice_l W t A n c hu .i64 (k : Int) (by omega) (by omega), he]
  simp [sizeOf, run_typeInfo, hi, hm, sliced, go_sem]
theorem wrap_sum {a b e : Nat} (he : e = a + b) (h : a + b ≤ 1000000000000) : IntKind.i64.wrap ((a : Int) + (b : Int)) = (e : Int) := by
  rw [IntKind.wrap_i64] <;> omega
theorem sum_small {k n m q : Nat} (hq : q = min m (n - k)) (hn : n ≤ 1000000000) (hlt : k < n) : k + q ≤ 1000000000000 := by omega
theorem min_of {k n m q : Nat} (hq : q = min m (n - k)) : (if ((n - k : Nat) : Int) < (m : Int) then ((n - k : Nat) : Int) else (m : Int)) = (q : Int) := by split <;> omega
theorem rd_low {w w' : World} {B n : Nat} {k : IntKind} {A : Option Addr} {l : List Int} (h : Rd w B k A n l) (hb : ∀ i, i < B → w'.heap[i]? = w.heap[i]?) : Rd w' B k A n l :=
  ⟨h.1, fun hn => by
    obtain ⟨b, off, e, hlt, hc⟩ := h.2 hn
    exact ⟨b, off, e, hlt, fun i hi => (World.cell?_of_block (a := ⟨b, off + i, none⟩) (hb b hlt)).trans (hc i hi)⟩⟩
theorem rd_rest {w : World} {B n k : Nat} {kd : IntKind} {A : Option Addr} {l : List Int} (h : Rd w B kd A n l) (hk : k ≤ n) : Rd w B kd (A.map (·.add (k * 1))) (n - k) (l.drop k) := by
  refine ⟨by rw [List.length_drop, h.1], fun hn => ?_⟩
  obtain ⟨b, off, rfl, hlt, hc⟩ := h.2 (by omega)
  refine ⟨b, off + k * 1, by simp [Addr.add], hlt, fun i hi => ?_⟩
  rw [show off + k * 1 + i = off + (k + i) by omega, hc (k + i) (by omega), List.getElem?_drop]
/-- What a round must leave alone: what lies below B0; two boxes of the iterator's. -/
def KpD (B0 D : Nat) (A A' : World) : Prop := (∀ k, k < B0 → A'.heap[k]? = A.heap[k]?) ∧ A'.heap[D]? = A.heap[D]? ∧ A'.heap[D + 1]? = A.heap[D + 1]? ∧ A.heap.size ≤ A'.heap.size
theorem KpD.refl (B0 D : Nat) (A : World) : KpD B0 D A A := ⟨fun _ _ => rfl, rfl, rfl, Nat.le_refl _⟩
theorem KpD.trans {B0 D : Nat} {A A' A'' : World} (h : KpD B0 D A A') (h' : KpD B0 D A' A'') : KpD B0 D A A'' := ⟨fun k hk => (h'.1 k hk).trans (h.1 k hk), h'.2.1.trans h.2.1, h'.2.2.1.trans h.2.2.1, Nat.le_trans h.2.2.2 h'.2.2.2⟩
theorem KpD.below {B0 D : Nat} {A A' : World} (h : Below A.heap.size A A') (hB : B0 ≤ A.heap.size) (hs : D + 1 < A.heap.size) : KpD B0 D A A' := ⟨fun k hk => h.block k (by omega), h.block D (by omega), h.block _ hs, h.size⟩
theorem KpD.put {B0 D E : Nat} (hB : B0 ≤ E) (hs : D + 1 < E) (W : World) (l : Nat) (o o' : Obj) (hl : E ≤ l) (_ : W.heap[l]? = some o) (_ : o.isCells = false) (_ : o.isWalk = false) : KpD B0 D W (W.putObj l o') :=
  ⟨fun k hk => World.putObj_heap_other (by omega), World.putObj_heap_other (by omega), World.putObj_heap_other (by omega), by have := (grownBy_putObj' W l o').size; omega⟩

/-- A piece that is handed over: where it lies, how long it is, what it holds. -/
structure HJ where
  A : Option Addr
  n : Nat
  l : List Int
abbrev encJ (x : HJ) : Array Value := #[.slice x.A x.n x.n]
/-- What is told of it. -/
def OkJ (K : Nat) (A : Option Addr) (l : List Int) (pre : List HJ) (x : HJ) (W : World) : Prop :=
  chunks K l = pre.map HJ.l ++ x.l :: chunks K (l.drop (K * (pre.length + 1))) ∧ x.l = (l.drop (K * pre.length)).take K ∧ l.drop (K * pre.length) ≠ [] ∧ x.n = x.l.length ∧ Rd W W.heap.size .i64 x.A x.n x.l ∧ x.A = A.map (·.add (K * pre.length))

set_option maxRecDepth 100000 in
set_option maxHeartbeats 2000000 in
theorem chunkJ_in {tt : TypeId} (K : Nat) (hK0 : 0 < K) (hK1 : K ≤ 1000) (l0 D : Nat) (Kp : World → World → Prop) (kb : ∀ (A A' : World), Kp A A' → ∀ (b : Nat) (t : TypeId) (v : Value), b = D ∨ b = D + 1 → t = 59 ∨ t = 3 → Boxed A b t v → Boxed A' b t v) (kt : ∀ (A B C : World), Kp A B → Kp B C → Kp A C) (kd : ∀ A : World, Kp A A.drew) (kr : ∀ A : World, Kp A A) {A : Option Addr} {n c : Nat} {l : List Int} (hn : n ≤ 1000000000) (hnc : n ≤ c) (J Jx : List HJ → World → Prop) (W : World) (hJ : StaysT tt W.heap.size J)
    (hY : ∀ pre x W1, J pre W1 → OkJ K A l pre x W1 → YieldAt Fence.wide 2 Tryd.prog l0 (encJ x) W1 fun e W' =>
      (e = .returned (.bool true) ∧ J (pre ++ [x]) W' ∧ Kp W1 W') ∨ (e = .returned (.bool false) ∧ Jx (pre ++ [x]) W'))
    (hs : Boxed W D 59 (.slice A n c)) (hk : Boxed W (D + 1) 3 (.int .i64 (K : Int))) (hr : ∀ W', Kp W W' → Rd W' W'.heap.size .i64 A n l) (h0 : J [] W) :
    CallsIn Fence.wide 3 Tryd.prog 69 #[.func (.yield l0) #[] #[], .pointer (some ⟨D, 0, none⟩), .pointer (some ⟨D + 1, 0, none⟩)] W fun e W' => (∃ v, e = .returned v) ∧
      ((∃ ys : List HJ, ys.map HJ.l = chunks K l ∧ J ys W') ∨ (∃ pre, Jx pre W')) := by
  obtain ⟨i0, hi, hz0, hz1, hz2⟩ := info_parts Nu.info_int
  have hl := (hr W (kr W)).1
  have Hr := Lib.hid (⟨hr, kt, hs, hk, hl⟩ : _ ∧ _ ∧ _ ∧ _ ∧ _)
  have Hst := Lib.hid hJ
  have HY := Lib.hid hY
  clear hr hJ hY hs hk hl
  refine callsIn_of_wp Tryd.func69 rfl trivial ?_ rfl
  simp only [Tryd.ntmps69, List.size_toArray, List.length_cons, List.length_nil, Nat.reduceAdd, Nat.reduceSub, Array.replicate_succ, Array.replicate_zero, List.push_toArray, List.append_toArray, List.nil_append, List.cons_append]
  gi_wp2_with fail
  gi_loopw [4] (fun i wr => ∃ (k : Nat) (pre : List HJ), i = .int .i64 k ∧ k = K * pre.length ∧ chunks K l = pre.map HJ.l ++ chunks K (l.drop k) ∧ J pre wr ∧ Kp W wr ∧ k ≤ n + K) (fun i _ => n + K - (intOf i).toNat)
  case atStart => exact ⟨0, [], rfl, rfl, by simp, h0, kr _, by omega⟩
  case round =>
    obtain ⟨k, pre, rfl, hpre, hch, hj, hB, hkn⟩ := hrel
    have bs : Boxed wr D 59 (.slice A n c) := kb _ _ hB _ _ _ (.inl rfl) (.inl rfl) Hr.out.2.2.1
    have bk : Boxed wr (D + 1) 3 (.int .i64 (K : Int)) := kb _ _ hB _ _ _ (.inr rfl) (.inr rfl) Hr.out.2.2.2.1
    have cs := bs.cell
    have ck := bk.cell
    by_cases hlt : k < n
    · have hne : l.drop k ≠ [] := fun e => by
        have := congrArg List.length e
        rw [List.length_drop, Hr.out.2.2.2.2] at this
        simp at this
        omega
      obtain ⟨q, hq⟩ : ∃ q, q = min K (n - k) := ⟨_, rfl⟩
      obtain ⟨E, hE⟩ : ∃ E, E = k + q := ⟨_, rfl⟩
      have hmin : ∀ (ts : Array TypeId) (t : TypeId) (w : World), (Builtin.min_ ts t #[.int .i64 (K : Int), .int .i64 ((n - k : Nat) : Int)]).run Tryd.prog w = .ok (.int .i64 (q : Int)) w := fun ts t w => by
        rw [run_min_int2]
        exact congrArg (fun x => Result.ok (Value.int .i64 x) w) (min_of hq)
      obtain ⟨A', hcut, -⟩ := cut_from (m := 1) Tryd.underlying59 hi hz1 A n c k (by omega)
      have hpc := cut_piece (m := 1) Tryd.underlying59 hi hz1 A n c k q E hE (by omega) hnc (by omega)
      have hw1 : IntKind.i64.wrap ((k : Int) + (q : Int)) = (E : Int) := wrap_sum hE (sum_small hq hn hlt)
      have hw3 : IntKind.i64.wrap ((k : Int) + ((K : Nat) : Int)) = ((k + K : Nat) : Int) := wrap_sum rfl (by omega)
      obtain ⟨A2, hA2⟩ : ∃ A2, A2 = A.map (·.add (k * 1)) := ⟨_, rfl⟩
      rw [← hA2] at hpc
      have hbd : Below wr.heap.size wr wr.drew := (Below.refl _ _).drew
      have hj2 : J pre wr.drew := Hst.out _ wr _ none hj (grown_of hbd) (fun r e => by cases e)
      have hBd : Kp W wr.drew := kt _ _ _ hB (kd _)
      have hok : OkJ K A l pre ⟨A2, q, (l.drop k).take K⟩ wr.drew := by
        have hlen : ((l.drop k).take K).length = q := by rw [List.length_take, List.length_drop, Hr.out.2.2.2.2, hq]
        refine ⟨?_, by rw [← hpre], by rw [← hpre]; exact hne, hlen.symm, ?_, by rw [hA2, ← hpre, Nat.mul_one]⟩
        · rw [hch, chunks_cons hne (by omega), List.drop_drop, Nat.mul_succ, ← hpre]
        · have h1 : Rd wr.drew wr.drew.heap.size .i64 A n l := Hr.out.1 _ hBd
          have h2 := (Rd.first (m := min K (n - k)) (rd_rest (k := k) h1 (by omega)) (by omega))
          rw [hA2]
          dsimp only
          have e2 : (l.drop k).take (min K (n - k)) = (l.drop k).take K := by
            rw [← hq, ← hlen, List.length_take, List.length_drop]
            apply List.ext_getElem?
            intro i
            simp only [List.getElem?_take, List.getElem?_drop]
            split
            · rw [if_pos (by omega)]
            · split
              · exact (List.getElem?_eq_none (by omega)).symm
              · rfl
          rw [← hq] at h2 e2
          rw [e2] at h2
          exact h2
      obtain ⟨fn, tmps, assign, body, hy, hR⟩ := HY.out pre _ wr.drew hj2 hok
      have H2 := Lib.hid (⟨hpre, hok, hBd, hq, hE⟩ : _ ∧ _ ∧ _ ∧ _ ∧ _)
      clear hj hj2 hpre hok hB hBd hbd hq hE hch hne bs bk h0 hA2
      dsimp only [encJ] at hy
      gi_wp2_with fail
      refine wpIn_wide.2 ?_
      go_still_tail 5, (by kernel_rfl)
      change wpList _ _ _ _ _ wr.drew
      go_wp2_with fail
      gi_wp2_with fail
      refine hR.mono ?_
      rintro e' W3 (⟨rfl, hJ3, hk3⟩ | ⟨rfl, hJx3⟩)
      · obtain ⟨hpre, hok, hB, hq, hE⟩ := H2.out
        have hB3 := kt _ _ _ hB hk3
        have cs3 := (show Boxed W3 D 59 (.slice A n c) from kb _ _ hB3 _ _ _ (.inl rfl) (.inl rfl) Hr.out.2.2.1).cell
        have ck3 := (show Boxed W3 (D + 1) 3 (.int .i64 (K : Int)) from kb _ _ hB3 _ _ _ (.inr rfl) (.inr rfl) Hr.out.2.2.2.1).cell
        have H4 := Lib.hid (⟨hJ3, hB3⟩ : _ ∧ _)
        clear hJ3 hk3 hpre hok hB hq hE hB3
        gi_wp2_with fail
        go_roundw
        case rel =>
          obtain ⟨hpre, hok, hB, hq, hE⟩ := H2.out
          refine ⟨k + K, pre ++ [_], by go_num, by rw [List.length_append, List.length_singleton, Nat.mul_succ, hpre], ?_, H4.out.1, H4.out.2, by omega⟩
          rw [hok.1, List.map_append, List.append_assoc, Nat.mul_succ, ← hpre]
          rfl
        case measure => simp [intOf]; omega
      · have H4 := Lib.hid hJx3
        clear hJx3
        gi_wp2_with fail
        refine bodyPost_ret (results_none rfl _ _ _) rfl ?_
        exact ⟨⟨_, rfl⟩, .inr ⟨_, H4.out⟩⟩
    · have hnil : l.drop k = [] := List.drop_of_length_le (by rw [Hr.out.2.2.2.2]; omega)
      rw [hnil, chunks_nil, List.append_nil] at hch
      have Hj2 := Lib.hid (⟨hj, hch⟩ : _ ∧ _)
      clear hj hpre hch hnil h0 hB bs bk
      gi_wp2_with fail
      go_end0
      exact ⟨⟨_, rfl⟩, .inl ⟨pre, Hj2.out.2.symm, Hj2.out.1⟩⟩

/-- The iterator's contract. -/
theorem chunkJ_seq {tt : TypeId} (K : Nat) (hK0 : 0 < K) (hK1 : K ≤ 1000) (D : Nat) (Kp : World → World → Prop) (kb : ∀ (A A' : World), Kp A A' → ∀ (b : Nat) (t : TypeId) (v : Value), b = D ∨ b = D + 1 → t = 59 ∨ t = 3 → Boxed A b t v → Boxed A' b t v) (kt : ∀ (A B C : World), Kp A B → Kp B C → Kp A C) (kd : ∀ A : World, Kp A A.drew) (kr : ∀ A : World, Kp A A)
    {A : Option Addr} {n c : Nat} {l : List Int} (hn : n ≤ 1000000000) (hnc : n ≤ c) (w : World) (hs : Boxed w D 59 (.slice A n c)) (hk : Boxed w (D + 1) 3 (.int .i64 (K : Int))) (hr : ∀ W W', Below w.heap.size w W → Kp W W' → Rd W' W'.heap.size .i64 A n l) :
    SeqW tt Fence.wide 3 Tryd.prog 69 #[.pointer (some ⟨D, 0, none⟩), .pointer (some ⟨D + 1, 0, none⟩)] encJ Kp (fun ys => ys.map HJ.l = chunks K l) (OkJ K A l) w := fun l0 J Jx W hW hJ _ hY h0 =>
  chunkJ_in K hK0 hK1 l0 D Kp kb kt kd kr hn hnc J Jx W hJ hY ((hW.block D hs.lt).trans hs) ((hW.block _ hk.lt).trans hk) (fun W' h => hr W W' hW h) h0

/-- What Chunk answers. -/
def ChunkJOut (K : Nat) (A : Option Addr) (n c : Nat) (w : World) (e : Ending) (w' : World) : Prop :=
  e = .returned (.func (.func 69) #[] #[.pointer (some ⟨w.heap.size, 0, none⟩), .pointer (some ⟨w.heap.size + 1, 0, none⟩)]) ∧ Boxed w' w.heap.size 59 (.slice A n c) ∧ Boxed w' (w.heap.size + 1) 3 (.int .i64 (K : Int)) ∧ w'.heap.size = w.heap.size + 2 ∧ Below w.heap.size w w'
set_option maxRecDepth 100000 in
set_option maxHeartbeats 400000 in
theorem chunkJ_any (K : Nat) (hK0 : 0 < K) (A : Option Addr) (n c : Nat) (w : World) : Calls Tryd.prog 60 #[.slice A n c, .int .i64 (K : Int)] w (ChunkJOut K A n c w) := by
  obtain ⟨w1, hw1⟩ : ∃ w1, w1 = w.alloc (.cells #[.slice A n c] 59) := ⟨_, rfl⟩
  obtain ⟨w2, hw2⟩ : ∃ w2, w2 = w1.alloc (.cells #[.int .i64 (K : Int)] 3) := ⟨_, rfl⟩
  have s1 : w1.heap.size = w.heap.size + 1 := by rw [hw1]; simp
  have b1 : Boxed w2 w.heap.size 59 (.slice A n c) := by rw [hw2, hw1]; exact (Boxed.new w _ _).alloc _
  have b2 : Boxed w2 (w.heap.size + 1) 3 (.int .i64 (K : Int)) := by rw [hw2, ← s1]; exact Boxed.new w1 _ _
  have hB : Below w.heap.size w w2 := by rw [hw2, hw1]; exact ((Below.refl _ w).alloc (Nat.le_refl _) _).alloc (by simp) _
  have H := Lib.hid (⟨b1, b2, (show w2.heap.size = w.heap.size + 2 by rw [hw2]; simp [s1]), hB, (show w2 = (w.alloc (.cells #[.slice A n c] 59)).alloc (.cells #[.int .i64 (K : Int)] 3) by rw [hw2, hw1])⟩ : _ ∧ _ ∧ _ ∧ _ ∧ _)
  have c2 := b2.cell
  rw [hw2, hw1] at c2
  clear hw1 hw2 s1 b1 b2 hB
  go_enter Tryd.func60, Tryd.ntmps60
  go_wp2
  go_ret
  rw [← H.out.2.2.2.2]
  exact ⟨rfl, H.out.1, H.out.2.1, H.out.2.2.1, H.out.2.2.2.1⟩

end Go.Proofs.YtafeadplmcoilaaDoor
