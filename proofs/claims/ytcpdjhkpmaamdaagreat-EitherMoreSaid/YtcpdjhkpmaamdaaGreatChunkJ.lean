/-
  slices.Chunk of ints and its iterator, told with whatever a round keeps.
-/
import Derived.Test.YtcpdjhkpmaamdaaGreatChunk
namespace Go.Proofs.YtcpdjhkpmaamdaaGreat
open Go.RowKit Go.Shelf
set_option linter.unusedVariables false

attribute [local go_sem] Oper.semAt_some

/-- Boxes of these types are kept. -/
def Keep3 (t : TypeId) : Prop := t = 80 ∨ t = 3 ∨ t = 39

/-- A piece that is handed over: where it lies, how long it is, what it holds. -/
structure HJ where
  A : Option Addr
  n : Nat
  l : List Int
abbrev encJ (x : HJ) : Array Value := #[.slice x.A x.n x.n]
/-- What is told of it. -/
def OkJ (l : List Int) (pre : List HJ) (x : HJ) (W : World) : Prop :=
  chunks 3 l = pre.map HJ.l ++ x.l :: chunks 3 (l.drop (3 * (pre.length + 1))) ∧ x.l = (l.drop (3 * pre.length)).take 3 ∧ l.drop (3 * pre.length) ≠ [] ∧ x.n = x.l.length ∧ Rd W W.heap.size .i64 x.A x.n x.l

set_option maxRecDepth 100000 in
set_option maxHeartbeats 2000000 in
theorem chunkJ_in (l0 D : Nat) (Kp : World → World → Prop) (kb : ∀ (A A' : World), Kp A A' → ∀ (b : Nat) (t : TypeId) (v : Value), Keep3 t → Boxed A b t v → Boxed A' b t v) (kt : ∀ (A B C : World), Kp A B → Kp B C → Kp A C) (kd : ∀ A : World, Kp A A.drew) (kr : ∀ A : World, Kp A A) {A : Option Addr} {n c : Nat} {l : List Int} (hn : n ≤ 1000000000) (hnc : n ≤ c) (J Jx : List HJ → World → Prop) (W : World) (hJ : StaysT 9 W.heap.size J)
    (hY : ∀ pre x W1, J pre W1 → OkJ l pre x W1 → YieldAt Fence.wide 2 Tryz.prog l0 (encJ x) W1 fun e W' =>
      (e = .returned (.bool true) ∧ J (pre ++ [x]) W' ∧ Kp W1 W') ∨ (e = .returned (.bool false) ∧ Jx (pre ++ [x]) W'))
    (hs : Boxed W D 80 (.slice A n c)) (hk : Boxed W (D + 1) 3 (.int .i64 3)) (hr : ∀ W', Kp W W' → Rd W' W'.heap.size .i64 A n l) (h0 : J [] W) :
    CallsIn Fence.wide 3 Tryz.prog 175 #[.func (.yield l0) #[] #[], .pointer (some ⟨D, 0, none⟩), .pointer (some ⟨D + 1, 0, none⟩)] W fun e W' => (∃ v, e = .returned v) ∧
      ((∃ ys : List HJ, ys.map HJ.l = chunks 3 l ∧ J ys W') ∨ (∃ pre, Jx pre W')) := by
  obtain ⟨i0, hi, hz0, hz1, hz2⟩ := info_parts info_int8
  have hl := (hr W (kr W)).1
  have Hr := Lib.hid (⟨hr, kt, hs, hk, hl⟩ : _ ∧ _ ∧ _ ∧ _ ∧ _)
  have Hst := Lib.hid hJ
  have HY := Lib.hid hY
  clear hr hJ hY hs hk hl
  refine callsIn_of_wp Tryz.func175 rfl trivial ?_ rfl
  simp only [Tryz.ntmps175, List.size_toArray, List.length_cons, List.length_nil, Nat.reduceAdd, Nat.reduceSub, Array.replicate_succ, Array.replicate_zero, List.push_toArray, List.append_toArray, List.nil_append, List.cons_append]
  gi_wp2_with fail
  gi_loopw [4] (fun i wr => ∃ (k : Nat) (pre : List HJ), i = .int .i64 k ∧ k = 3 * pre.length ∧ chunks 3 l = pre.map HJ.l ++ chunks 3 (l.drop k) ∧ J pre wr ∧ Kp W wr ∧ k ≤ n + 3) (fun i _ => n + 3 - (intOf i).toNat)
  case atStart => exact ⟨0, [], rfl, rfl, by simp, h0, kr _, by omega⟩
  case round =>
    obtain ⟨k, pre, rfl, hpre, hch, hj, hB, hkn⟩ := hrel
    have bs : Boxed wr D 80 (.slice A n c) := kb _ _ hB _ _ _ (.inl rfl) Hr.out.2.2.1
    have bk : Boxed wr (D + 1) 3 (.int .i64 3) := kb _ _ hB _ _ _ (.inr (.inl rfl)) Hr.out.2.2.2.1
    have cs := bs.cell
    have ck := bk.cell
    by_cases hlt : k < n
    · have hne : l.drop k ≠ [] := fun e => by
        have := congrArg List.length e
        rw [List.length_drop, Hr.out.2.2.2.2] at this
        simp at this
        omega
      obtain ⟨q, hq⟩ : ∃ q, q = min 3 (n - k) := ⟨_, rfl⟩
      obtain ⟨E, hE⟩ : ∃ E, E = k + q := ⟨_, rfl⟩
      have hmin : ∀ (ts : Array TypeId) (t : TypeId) (w : World), (Builtin.min_ ts t #[.int .i64 3, .int .i64 ((n - k : Nat) : Int)]).run Tryz.prog w = .ok (.int .i64 (q : Int)) w := fun ts t w => by
        rw [run_min_int2]
        exact congrArg (fun x => Result.ok (Value.int .i64 x) w) (min_of hq)
      obtain ⟨A', hcut, -⟩ := cut_from (m := 1) Tryz.underlying80 hi hz1 A n c k (by omega)
      have hpc := cut_pieceTw (m := 1) Tryz.underlying80 hi hz1 A n c k q E hE (by omega) hnc (by omega)
      have hw1 : IntKind.i64.wrap ((k : Int) + (q : Int)) = (E : Int) := wrap_sum hE (sum_small hq hn hlt)
      have hw3 : IntKind.i64.wrap ((k : Int) + ((3 : Nat) : Int)) = ((k + 3 : Nat) : Int) := wrap_sum rfl (by omega)
      obtain ⟨A2, hA2⟩ : ∃ A2, A2 = A.map (·.add (k * 1)) := ⟨_, rfl⟩
      rw [← hA2] at hpc
      have hbd : Below wr.heap.size wr wr.drew := (Below.refl _ _).drew
      have hj2 : J pre wr.drew := Hst.out _ wr _ none hj (grown_of hbd) (fun r e => by cases e)
      have hBd : Kp W wr.drew := kt _ _ _ hB (kd _)
      have hok : OkJ l pre ⟨A2, q, (l.drop k).take 3⟩ wr.drew := by
        have hlen : ((l.drop k).take 3).length = q := by rw [List.length_take, List.length_drop, Hr.out.2.2.2.2, hq]
        refine ⟨?_, by rw [← hpre], by rw [← hpre]; exact hne, hlen.symm, ?_⟩
        · rw [hch, chunks_cons hne (by omega), List.drop_drop, Nat.mul_succ, ← hpre]
        · have h1 : Rd wr.drew wr.drew.heap.size .i64 A n l := Hr.out.1 _ hBd
          have h2 := (Rd.first (m := min 3 (n - k)) (rd_rest (k := k) h1 (by omega)) (by omega))
          rw [hA2]
          dsimp only
          have e2 : (l.drop k).take (min 3 (n - k)) = (l.drop k).take 3 := by
            rw [← hq, ← hlen, List.length_take, List.length_drop]
            apply List.ext_getElem?
            intro i
            simp only [List.getElem?_take, List.getElem?_drop]
            split
            · rw [if_pos (by omega)]
            · split
              · exact (List.getElem?_eq_none (by omega)).symm
              · rfl
          rw [← hq] at h2 e2
          rw [e2] at h2
          exact h2
      obtain ⟨fn, tmps, assign, body, hy, hR⟩ := HY.out pre _ wr.drew hj2 hok
      have H2 := Lib.hid (⟨hpre, hok, hBd, hq, hE⟩ : _ ∧ _ ∧ _ ∧ _ ∧ _)
      clear hj hj2 hpre hok hB hBd hbd hq hE hch hne bs bk h0 hA2
      dsimp only [encJ] at hy
      gi_wp2_with fail
      refine wpIn_wide.2 ?_
      go_still_tail 5, (by kernel_rfl)
      change wpList _ _ _ _ _ wr.drew
      go_wp2_with fail
      gi_wp2_with fail
      refine hR.mono ?_
      rintro e' W3 (⟨rfl, hJ3, hk3⟩ | ⟨rfl, hJx3⟩)
      · obtain ⟨hpre, hok, hB, hq, hE⟩ := H2.out
        have hB3 := kt _ _ _ hB hk3
        have cs3 := (show Boxed W3 D 80 (.slice A n c) from kb _ _ hB3 _ _ _ (.inl rfl) Hr.out.2.2.1).cell
        have ck3 := (show Boxed W3 (D + 1) 3 (.int .i64 3) from kb _ _ hB3 _ _ _ (.inr (.inl rfl)) Hr.out.2.2.2.1).cell
        have H4 := Lib.hid (⟨hJ3, hB3⟩ : _ ∧ _)
        clear hJ3 hk3 hpre hok hB hq hE hB3
        gi_wp2_with fail
        go_roundw
        case rel =>
          obtain ⟨hpre, hok, hB, hq, hE⟩ := H2.out
          refine ⟨k + 3, pre ++ [_], by go_num, by rw [List.length_append, hpre]; simp; omega, ?_, H4.out.1, H4.out.2, by omega⟩
          rw [hok.1, List.map_append, List.append_assoc, Nat.mul_succ, ← hpre]
          rfl
        case measure => simp [intOf]; omega
      · have H4 := Lib.hid hJx3
        clear hJx3
        gi_wp2_with fail
        refine bodyPost_ret (results_none rfl _ _ _) rfl ?_
        exact ⟨⟨_, rfl⟩, .inr ⟨_, H4.out⟩⟩
    · have hnil : l.drop k = [] := List.drop_of_length_le (by rw [Hr.out.2.2.2.2]; omega)
      rw [hnil, chunks_nil, List.append_nil] at hch
      have Hj2 := Lib.hid (⟨hj, hch⟩ : _ ∧ _)
      clear hj hpre hch hnil h0 hB bs bk
      gi_wp2_with fail
      go_end0
      exact ⟨⟨_, rfl⟩, .inl ⟨pre, Hj2.out.2.symm, Hj2.out.1⟩⟩

/-- The iterator's contract. -/
theorem chunkJ_seq (D : Nat) (Kp : World → World → Prop) (kb : ∀ (A A' : World), Kp A A' → ∀ (b : Nat) (t : TypeId) (v : Value), Keep3 t → Boxed A b t v → Boxed A' b t v) (kt : ∀ (A B C : World), Kp A B → Kp B C → Kp A C) (kd : ∀ A : World, Kp A A.drew) (kr : ∀ A : World, Kp A A)
    {A : Option Addr} {n c : Nat} {l : List Int} (hn : n ≤ 1000000000) (hnc : n ≤ c) (w : World) (hs : Boxed w D 80 (.slice A n c)) (hk : Boxed w (D + 1) 3 (.int .i64 3)) (hr : ∀ W W', Below w.heap.size w W → Kp W W' → Rd W' W'.heap.size .i64 A n l) :
    SeqW 9 Fence.wide 3 Tryz.prog 175 #[.pointer (some ⟨D, 0, none⟩), .pointer (some ⟨D + 1, 0, none⟩)] encJ Kp (fun ys => ys.map HJ.l = chunks 3 l) (OkJ l) w := fun l0 J Jx W hW hJ _ hY h0 =>
  chunkJ_in l0 D Kp kb kt kd kr hn hnc J Jx W hJ hY ((hW.block D hs.lt).trans hs) ((hW.block _ hk.lt).trans hk) (fun W' h => hr W W' hW h) h0

/-- What Chunk answers. -/
def ChunkJOut (A : Option Addr) (n c : Nat) (w : World) (e : Ending) (w' : World) : Prop :=
  e = .returned (.func (.func 175) #[] #[.pointer (some ⟨w.heap.size, 0, none⟩), .pointer (some ⟨w.heap.size + 1, 0, none⟩)]) ∧ Boxed w' w.heap.size 80 (.slice A n c) ∧ Boxed w' (w.heap.size + 1) 3 (.int .i64 3) ∧ w'.heap.size = w.heap.size + 2 ∧ Below w.heap.size w w'
set_option maxRecDepth 100000 in
set_option maxHeartbeats 400000 in
theorem chunkJ_any (A : Option Addr) (n c : Nat) (w : World) : Calls Tryz.prog 174 #[.slice A n c, .int .i64 3] w (ChunkJOut A n c w) := by
  obtain ⟨w1, hw1⟩ : ∃ w1, w1 = w.alloc (.cells #[.slice A n c] 80) := ⟨_, rfl⟩
  obtain ⟨w2, hw2⟩ : ∃ w2, w2 = w1.alloc (.cells #[.int .i64 3] 3) := ⟨_, rfl⟩
  have s1 : w1.heap.size = w.heap.size + 1 := by rw [hw1]; simp
  have b1 : Boxed w2 w.heap.size 80 (.slice A n c) := by rw [hw2, hw1]; exact (Boxed.new w _ _).alloc _
  have b2 : Boxed w2 (w.heap.size + 1) 3 (.int .i64 3) := by rw [hw2, ← s1]; exact Boxed.new w1 _ _
  have hB : Below w.heap.size w w2 := by rw [hw2, hw1]; exact ((Below.refl _ w).alloc (Nat.le_refl _) _).alloc (by simp) _
  have H := Lib.hid (⟨b1, b2, (show w2.heap.size = w.heap.size + 2 by rw [hw2]; simp [s1]), hB, (show w2 = (w.alloc (.cells #[.slice A n c] 80)).alloc (.cells #[.int .i64 3] 3) by rw [hw2, hw1])⟩ : _ ∧ _ ∧ _ ∧ _ ∧ _)
  have c2 := b2.cell
  rw [hw2, hw1] at c2
  clear hw1 hw2 s1 b1 b2 hB
  go_enter Tryz.func174, Tryz.ntmps174
  go_wp2
  go_ret
  rw [← H.out.2.2.2.2]
  exact ⟨rfl, H.out.1, H.out.2.1, H.out.2.2.1, H.out.2.2.2.1⟩

end Go.Proofs.YtcpdjhkpmaamdaaGreat
