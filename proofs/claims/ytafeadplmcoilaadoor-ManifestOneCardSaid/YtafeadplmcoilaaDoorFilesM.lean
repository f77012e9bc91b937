/-
  manifest.files and its iterator: their contracts.
-/
import Derived.Test.YtafeadplmcoilaaDoorManQ
import Derived.Test.YtafeadplmcoilaaDoorIdM
import Derived.Test.YtafeadplmcoilaaDoorScope
import Derived.Test.YtafeadplmcoilaaDoorRangeP
import Derived.Test.YtafeadplmcoilaaDoorMarks
namespace Go.Proofs.YtafeadplmcoilaaDoor
open Go.RowKit Go.Shelf
set_option linter.unusedVariables false

attribute [local go_sem] Oper.semAt_some

/-- The idents of a manifest's files. -/
def snapF (m : ManP) : List IdP := if m.ss = 0 then [] else [⟨4, m.ss, m.sf⟩]
def segF (s : SegP) : IdP := ⟨3, s.sq, s.fm⟩
def filesP (m : ManP) : List IdP := snapF m ++ m.sg.map segF
abbrev encI (x : IdP) : Array Value := #[.agg #[.int .u8 x.kind, .int .i64 x.seq, .int .i64 x.fmt]]
theorem snap_none {m : ManP} (h : m.ss = 0) : snapF m = [] := if_pos h
theorem snap_one {m : ManP} (h : ¬ m.ss = 0) : snapF m = [⟨4, m.ss, m.sf⟩] := if_neg h
theorem files_succ {m : ManP} {k : Nat} {s : SegP} (h : m.sg[k]? = some s) : snapF m ++ (m.sg.take (k + 1)).map segF = (snapF m ++ (m.sg.take k).map segF) ++ [segF s] := by
  rw [List.take_add_one, h, List.map_append, List.append_assoc]
  rfl
theorem files_pre (m : ManP) (k : Nat) : snapF m ++ (m.sg.take k).map segF <+: filesP m := by
  unfold filesP
  rw [← List.take_append_drop k m.sg]
  rw [List.map_append, ← List.append_assoc, List.take_append_drop]
  exact List.prefix_append _ _
theorem snap_pre (m : ManP) : snapF m <+: filesP m := List.prefix_append _ _
/-- What a round must leave alone: what lies below B0, and the box of the manifest. -/
def KpF (B0 D : Nat) (A A' : World) : Prop := (∀ k, k < B0 → A'.heap[k]? = A.heap[k]?) ∧ A'.heap[D]? = A.heap[D]? ∧ A.heap.size ≤ A'.heap.size
theorem KpF.refl (B0 D : Nat) (A : World) : KpF B0 D A A := ⟨fun _ _ => rfl, rfl, Nat.le_refl _⟩
theorem KpF.trans {B0 D : Nat} {A A' A'' : World} (h : KpF B0 D A A') (h' : KpF B0 D A' A'') : KpF B0 D A A'' := ⟨fun k hk => (h'.1 k hk).trans (h.1 k hk), h'.2.1.trans h.2.1, Nat.le_trans h.2.2 h'.2.2⟩
theorem KpF.below {B0 D : Nat} {A A' : World} (h : Below A.heap.size A A') (hB : B0 ≤ A.heap.size) (hs : D < A.heap.size) : KpF B0 D A A' := ⟨fun k hk => h.block k (by omega), h.block D hs, h.size⟩
theorem KpF.put {B0 D E : Nat} (hB : B0 ≤ E) (hs : D < E) (W : World) (l : Nat) (o o' : Obj) (hl : E ≤ l) (_ : W.heap[l]? = some o) (_ : o.isCells = false) (_ : o.isWalk = false) : KpF B0 D W (W.putObj l o') :=
  ⟨fun k hk => World.putObj_heap_other (by omega), World.putObj_heap_other (by omega), by have := (grownBy_putObj' W l o').size; omega⟩

set_option maxRecDepth 100000 in
set_option maxHeartbeats 4000000 in
theorem files_in {tt : TypeId} (l0 D B0 : Nat) {A : Option Addr} {n c : Nat} {m : ManP} (hn : n ≤ 1000000) (J Jx : List IdP → World → Prop) (W : World) (hJ : StaysT tt W.heap.size J)
    (hY : ∀ pre x W1, J pre W1 → pre ++ [x] <+: filesP m → YieldAt Fence.wide 2 Tryd.prog l0 (encI x) W1 fun e W' =>
      (e = .returned (.bool true) ∧ J (pre ++ [x]) W' ∧ KpF B0 D W1 W') ∨ (e = .returned (.bool false) ∧ Jx (pre ++ [x]) W'))
    (hb : BoxM W D m (.slice A n c)) (hr : Sg W B0 A n m.sg) (hB0 : B0 ≤ W.heap.size) (h0 : J [] W) :
    CallsIn Fence.wide 3 Tryd.prog 62 #[.func (.yield l0) #[] #[], .pointer (some ⟨D, 0, none⟩)] W fun e W' => (∃ v, e = .returned v) ∧
      ((∃ ys, ys = filesP m ∧ J ys W') ∨ (∃ pre, Jx pre W')) := by
  have Hr := Lib.hid (⟨hr, hb, hB0, hr.len⟩ : _ ∧ _ ∧ _ ∧ _)
  have HJ := Lib.hid hJ
  have HY := Lib.hid hY
  obtain ⟨x0, x1, x2, x3, x4, x5⟩ := hb.cells
  clear hr hJ hY hb x0 x1 x2
  by_cases h1 : m.ss = 0
  · have q1 : (m.ss != 0) = false := by simp [h1]
    have H0 := Lib.hid (show J (snapF m) W from by rw [snap_none h1]; exact h0)
    clear h1 h0
    refine callsIn_of_wp Tryd.func62 rfl trivial ?_ rfl
    simp only [Tryd.ntmps62, List.size_toArray, List.length_cons, List.length_nil, Nat.reduceAdd, Nat.reduceSub, Array.replicate_succ, Array.replicate_zero, List.push_toArray, List.append_toArray, List.nil_append, List.cons_append]
    gi_wp2_with fail
    repeat (refine ⟨fun _ _ => trivial, ?_⟩; gi_wp2_with fail)
    clear q1 x3 x4 x5
    gi_loopw [24] (fun i wr => ∃ (k : Nat), k ≤ n ∧ i = .int .i64 k ∧ J (snapF m ++ (m.sg.take k).map segF) wr ∧ KpF B0 D W wr) (fun i _ => n - (intOf i).toNat)
    case atStart => exact ⟨0, Nat.zero_le _, rfl, by rw [List.take_zero, List.map_nil, List.append_nil]; exact H0.out, KpF.refl _ _ _⟩
    case round =>
      obtain ⟨k, hk, rfl, hj, hB⟩ := hrel
      by_cases hlt : k < n
      · obtain ⟨b, off, s, hA, hbb, hf, c0, c1, c2, c3⟩ := Sg.at_ (show Sg wr B0 A n m.sg from Row.low Hr.out.1 hB.1) hlt
        subst hA
        obtain ⟨w2, hw2⟩ : ∃ w2, w2 = wr.alloc (.cells #[.int .i64 s.sq, .int .i64 s.fm, .int .i64 s.fi, .int .i64 s.ct] 51) := ⟨_, rfl⟩
        have hlen : (snapF m ++ (m.sg.take k).map segF) ++ [segF s] <+: filesP m := by rw [← files_succ hf]; exact files_pre _ _
        have hj2 : J (snapF m ++ (m.sg.take k).map segF) w2 := by rw [hw2]; exact HJ.out _ wr _ none hj (World.grownBy_alloc wr _ none) (fun r e => by cases e)
        have hB2 : KpF B0 D W w2 := hB.trans (by rw [hw2]; exact KpF.below ((Below.refl _ _).alloc (Nat.le_refl _) _) (by have := Hr.out.2.2.1; have := hB.2.2; omega) (by have := Hr.out.2.1.lt; have := hB.2.2; omega))
        obtain ⟨fn', tmps', assign', body', hy', hR'⟩ := HY.out _ (segF s) w2 hj2 hlen
        have Hs2 := Lib.hid (files_succ hf)
        have Hb2 := Lib.hid (⟨hB2, hw2⟩ : _ ∧ _)
        dsimp only [encI, segF] at hy'
        rw [hw2] at hy'
        clear hf hB2 hj hj2 hlen hB
        gi_wp2_with fail
        rw [← Hb2.out.2]
        refine hR'.mono ?_
        rintro e W3 (⟨rfl, hJ3, hk3⟩ | ⟨rfl, hJx3⟩)
        · gi_wp2_with fail
          go_roundw
          case rel => exact ⟨k + 1, by omega, by go_num, by rw [Hs2.out]; exact hJ3, Hb2.out.1.trans hk3⟩
          case measure => simp [intOf]; omega
        · gi_wp2_with fail
          refine bodyPost_ret (results_none rfl _ _ _) rfl ?_
          exact ⟨⟨_, rfl⟩, .inr ⟨_, hJx3⟩⟩
      · obtain rfl : k = n := by omega
        rw [List.take_of_length_le (show m.sg.length ≤ k by rw [Hr.out.2.2.2]; exact Nat.le_refl _)] at hj
        gi_wp2_with fail
        go_end0
        exact ⟨⟨_, rfl⟩, .inl ⟨_, rfl, hj⟩⟩
  · have q1 : (m.ss != 0) = true := by simp [h1]
    have Hs := Lib.hid (snap_one h1)
    obtain ⟨fn, tmps, assign, body, hy, hR⟩ := HY.out [] ⟨4, m.ss, m.sf⟩ W h0 (by rw [List.nil_append, ← Hs.out]; exact snap_pre m)
    dsimp only [encI] at hy
    clear h1
    refine callsIn_of_wp Tryd.func62 rfl trivial ?_ rfl
    simp only [Tryd.ntmps62, List.size_toArray, List.length_cons, List.length_nil, Nat.reduceAdd, Nat.reduceSub, Array.replicate_succ, Array.replicate_zero, List.push_toArray, List.append_toArray, List.nil_append, List.cons_append]
    gi_wp2_with fail
    refine hR.mono ?_
    rintro e W3 (⟨rfl, hJ3, hk3⟩ | ⟨rfl, hJx3⟩)
    · have hb3 : BoxM W3 D m (.slice A n c) := hk3.2.1.trans Hr.out.2.1
      obtain ⟨y0, y1, y2, y3, y4, y5⟩ := hb3.cells
      have H0 := Lib.hid (show J (snapF m) W3 ∧ KpF B0 D W W3 from ⟨by rw [Hs.out]; exact hJ3, hk3⟩)
      clear hJ3 hk3 hb3 y0 y1 y2 y3 y4 x3 x4 x5 h0 hy hR
      gi_wp2_with fail
      clear y5 q1
      gi_loopw [24] (fun i wr => ∃ (k : Nat), k ≤ n ∧ i = .int .i64 k ∧ J (snapF m ++ (m.sg.take k).map segF) wr ∧ KpF B0 D W wr) (fun i _ => n - (intOf i).toNat)
      case atStart => exact ⟨0, Nat.zero_le _, rfl, by rw [List.take_zero, List.map_nil, List.append_nil]; exact H0.out.1, H0.out.2⟩
      case round =>
        obtain ⟨k, hk, rfl, hj, hB⟩ := hrel
        by_cases hlt : k < n
        · obtain ⟨b, off, s, hA, hbb, hf, c0, c1, c2, c3⟩ := Sg.at_ (show Sg wr B0 A n m.sg from Row.low Hr.out.1 hB.1) hlt
          subst hA
          obtain ⟨w2, hw2⟩ : ∃ w2, w2 = wr.alloc (.cells #[.int .i64 s.sq, .int .i64 s.fm, .int .i64 s.fi, .int .i64 s.ct] 51) := ⟨_, rfl⟩
          have hlen : (snapF m ++ (m.sg.take k).map segF) ++ [segF s] <+: filesP m := by rw [← files_succ hf]; exact files_pre _ _
          have hj2 : J (snapF m ++ (m.sg.take k).map segF) w2 := by rw [hw2]; exact HJ.out _ wr _ none hj (World.grownBy_alloc wr _ none) (fun r e => by cases e)
          have hB2 : KpF B0 D W w2 := hB.trans (by rw [hw2]; exact KpF.below ((Below.refl _ _).alloc (Nat.le_refl _) _) (by have := Hr.out.2.2.1; have := hB.2.2; omega) (by have := Hr.out.2.1.lt; have := hB.2.2; omega))
          obtain ⟨fn', tmps', assign', body', hy', hR'⟩ := HY.out _ (segF s) w2 hj2 hlen
          have Hs2 := Lib.hid (files_succ hf)
          have Hb2 := Lib.hid (⟨hB2, hw2⟩ : _ ∧ _)
          dsimp only [encI, segF] at hy'
          rw [hw2] at hy'
          clear hf hB2 hj hj2 hlen hB
          gi_wp2_with fail
          rw [← Hb2.out.2]
          refine hR'.mono ?_
          rintro e W3 (⟨rfl, hJ3, hk3⟩ | ⟨rfl, hJx3⟩)
          · gi_wp2_with fail
            go_roundw
            case rel => exact ⟨k + 1, by omega, by go_num, by rw [Hs2.out]; exact hJ3, Hb2.out.1.trans hk3⟩
            case measure => simp [intOf]; omega
          · gi_wp2_with fail
            refine bodyPost_ret (results_none rfl _ _ _) rfl ?_
            exact ⟨⟨_, rfl⟩, .inr ⟨_, hJx3⟩⟩
        · obtain rfl : k = n := by omega
          rw [List.take_of_length_le (show m.sg.length ≤ k by rw [Hr.out.2.2.2]; exact Nat.le_refl _)] at hj
          gi_wp2_with fail
          go_end0
          exact ⟨⟨_, rfl⟩, .inl ⟨_, rfl, hj⟩⟩
    · gi_wp2_with fail
      refine bodyPost_ret (results_none rfl _ _ _) rfl ?_
      exact ⟨⟨_, rfl⟩, .inr ⟨_, hJx3⟩⟩

/-- The iterator's contract. -/
theorem files_seq {tt : TypeId} (D B0 : Nat) {A : Option Addr} {n c : Nat} {m : ManP} (hn : n ≤ 1000000) (w : World) (hB : B0 ≤ w.heap.size) (hb : BoxM w D m (.slice A n c)) (hr : Sg w B0 A n m.sg) :
    SeqP tt Fence.wide 3 Tryd.prog 62 #[.pointer (some ⟨D, 0, none⟩)] encI (KpF B0 D) (fun ys => ys = filesP m) (fun pre => pre <+: filesP m) w := fun l0 J Jx W hW hJ _ hY h0 =>
  files_in l0 D B0 hn J Jx W hJ hY (hb.below hW) (Row.low hr fun k hk => hW.block k (by omega)) (Nat.le_trans hB hW.size) h0

/-- What files answers. -/
def FilesOut (m : ManP) (v : Value) (w : World) (e : Ending) (w' : World) : Prop :=
  e = .returned (.func (.func 62) #[] #[.pointer (some ⟨w.heap.size, 0, none⟩)]) ∧ BoxM w' w.heap.size m v ∧ w'.heap.size = w.heap.size + 1 ∧ Below w.heap.size w w'
set_option maxRecDepth 100000 in
set_option maxHeartbeats 400000 in
theorem files_any (m : ManP) (v : Value) (w : World) : Calls Tryd.prog 44 #[manV m v] w (FilesOut m v w) := by
  unfold manV
  go_enter Tryd.func44, Tryd.ntmps44
  go_wp2
  go_ret
  exact ⟨rfl, BoxM.new w _ _, by simp, (Below.refl _ w).alloc (Nat.le_refl _) _⟩

end Go.Proofs.YtafeadplmcoilaaDoor
