/-
  gauss.all's iterator: its contract.
-/
import Derived.RangeFuncNested
import Derived.RangeFuncBound
import Derived.RangeFuncCalls
import Derived.RangeFuncLeaves
import Derived.Shelf.Abstract
import Derived.Shelf.RegionOpen
import Derived.OwnWalkIn
import Derived.TacticsInMore
import Derived.LoopNIn
import Derived.LoopIn
import Derived.Test.YthlngicfcmiedaaParts
namespace Go.Proofs.Ythlngicfcmiedaa
open Go.RowKit Go.Shelf

attribute [local go_sem] Oper.semAt_some

/-- A byte, as it is handed over (of what is none: its rest, so that one is handed over always). -/
abbrev encs (x : Int) : Array Value := #[.int .u8 (x % 256)]
theorem byte_rest {x : Int} (h : 0 ≤ x ∧ x ≤ 255) : x % 256 = x := by omega
theorem flat_lt {ps : List Part} {k j : Nat} {q : Part} (h : ps[k]? = some q) (hj : j < q.l.length) : (flat (ps.take k) ++ q.l.take j).length < (flat ps).length := by
  obtain ⟨hk, he⟩ := List.getElem?_eq_some_iff.1 h
  have e1 : ps = ps.take k ++ q :: ps.drop (k + 1) := by
    rw [← he, ← List.drop_eq_getElem_cons hk, List.take_append_drop]
  have e2 : flat ps = flat (ps.take k) ++ (q.l ++ flat (ps.drop (k + 1))) := by
    conv => lhs; rw [e1]
    unfold flat
    simp
  rw [e2]
  simp only [List.length_append, List.length_take]
  omega

set_option maxRecDepth 100000 in
set_option maxHeartbeats 2000000 in
theorem iter_in (l s B : Nat) {A : Option Addr} {n : Nat} (c : Nat) {ps : List Part} (hn : n ≤ 140737488355328) (J Jx : List Int → World → Prop)
    (hY : ∀ pre x W, J pre W → pre.length < (flat ps).length → YieldAt Fence.wide 2 Try.prog l (encs x) W fun e W' =>
      (e = .returned (.bool true) ∧ J (pre ++ [x]) W' ∧ Below B W W') ∨ (e = .returned (.bool false) ∧ Jx (pre ++ [x]) W'))
    (W : World) (hcs : W.cell? ⟨s, 0, none⟩ = some (.slice A n c)) (hr : Rds W B A n ps) (h0 : J [] W) :
    CallsIn Fence.wide 3 Try.prog 27 #[.func (.yield l) #[] #[], .pointer (some ⟨s, 0, none⟩)] W fun e W' => (∃ v, e = .returned v) ∧
      ((∃ ys, ys = flat ps ∧ J ys W') ∨ (∃ pre, True ∧ Jx pre W')) := by
  have Hl := Lib.hid hr.len
  refine callsIn_of_wp Try.func27 rfl trivial ?_ rfl
  simp only [Try.ntmps27, List.size_toArray, List.length_cons, List.length_nil, Nat.reduceAdd, Nat.reduceSub, Array.replicate_succ, Array.replicate_zero, List.push_toArray, List.append_toArray, List.nil_append, List.cons_append]
  gi_wp2
  gi_loopw [9] (fun i wr => ∃ (k : Nat), k ≤ n ∧ i = .int .i64 k ∧ J (flat (ps.take k)) wr ∧ Below B W wr) (fun i _ => n - (intOf i).toNat)
  case atStart => exact ⟨0, Nat.zero_le _, rfl, h0, Below.refl _ _⟩
  case round =>
    obtain ⟨k, hk, rfl, hJ, hB⟩ := hrel
    by_cases hlt : k < n
    · obtain ⟨b, off, ⟨qA, qn, qc, ql⟩, rfl, hb, hq, hc, hrq, hbq, hnq⟩ := (hr.on hB (Nat.le_refl _)).at_ hlt
      have hq1 := flat_take hq
      have hq2 := fun (j : Nat) (hj : j < ql.length) => flat_lt hq hj
      dsimp only at hc hrq hbq hnq hq1 hq2
      have Hq := Lib.hid hq1
      have Hq' := Lib.hid hq2
      clear hq1 hq2
      have Hql := Lib.hid hrq.1
      clear hq
      obtain ⟨wo, rfl⟩ : ∃ wo : World, wo = wr := ⟨_, rfl⟩
      gi_wp2
      gi_loopw [15] (fun i wr => ∃ (j : Nat), j ≤ qn ∧ i = .int .i64 j ∧ J (flat (ps.take k) ++ ql.take j) wr ∧ Below B wo wr) (fun i _ => qn - (intOf i).toNat)
      case atStart => exact ⟨0, Nat.zero_le _, rfl, by rw [List.take_zero, List.append_nil]; exact hJ, Below.refl _ _⟩
      case round =>
        obtain ⟨j, hj, rfl, hJ2, hB2⟩ := hrel
        by_cases hlt2 : j < qn
        · obtain ⟨b', off', rfl, hb', hc'⟩ := (hrq.on hB2 (Nat.le_refl _)).at_ (by omega)
          have hcj := hc' j hlt2
          clear hc'
          have Hs := Lib.hid (take_snoc (l := ql) (k := j) (by rw [Hql.out]; exact hlt2))
          obtain ⟨fn, tmps, assign, body, hy, hR⟩ := hY _ (ql[j]?.getD 0) _ hJ2 (Hq'.out _ (by rw [Hql.out]; exact hlt2))
          dsimp only [encs] at hy
          rw [byte_rest (hbq.at_ j)] at hy
          gi_wp2
          refine hR.mono ?_
          rintro e W3 (⟨rfl, hJ3, hk3⟩ | ⟨rfl, hJx3⟩)
          · gi_wp2
            go_roundw
            case rel => exact ⟨j + 1, by omega, by go_num, by rw [Hs.out, ← List.append_assoc]; exact hJ3, hB2.trans hk3⟩
            case measure => simp [intOf]; omega
          · gi_wp2
            refine bodyPost_ret (results_none rfl _ _ _) rfl ?_
            exact ⟨⟨_, rfl⟩, .inr ⟨_, trivial, hJx3⟩⟩
        · obtain rfl : j = qn := by omega
          rw [List.take_of_length_le (show ql.length ≤ j by rw [Hql.out]; exact Nat.le_refl _), ← Hq.out] at hJ2
          gi_wp2
          go_roundw
          case rel => exact ⟨k + 1, by omega, by go_num, hJ2, hB.trans hB2⟩
          case measure => simp [intOf]; omega
    · obtain rfl : k = n := by omega
      rw [List.take_of_length_le (show ps.length ≤ k by rw [Hl.out]; exact Nat.le_refl _)] at hJ
      gi_wp2
      go_end0
      exact ⟨⟨_, rfl⟩, .inl ⟨_, rfl, hJ⟩⟩

/-- The iterator's contract. -/
theorem iter_stops (s : Nat) {B : Nat} {A : Option Addr} {n : Nat} (c : Nat) {ps : List Part} (hn : n ≤ 140737488355328) (w : World) (hB : B ≤ w.heap.size) (hs : Boxed w s 24 (.slice A n c)) (hr : Rds w B A n ps) :
    SeqStopsK Fence.wide 3 Try.prog 27 #[.pointer (some ⟨s, 0, none⟩)] encs (Below B)
      (fun ys => ys = flat ps) (fun _ => True) (flat ps).length w := fun l J Jx W hW _ _ hY h0 =>
  iter_in l s B c hn J Jx hY W ((hW.cell (p := ⟨s, 0, none⟩) hs.lt).trans hs.cell) (hr.on (hW.mono hB) (Nat.le_refl _)) h0

end Go.Proofs.Ythlngicfcmiedaa
