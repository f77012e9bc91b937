/-
  moultref05.Less, Find: their contracts.
-/
import Derived.Test.YtbfdjjkphmchgaaDoorIds
import Derived.Test.YtbfdjjkphmchgaaDoorFind
import Derived.Test.YtbfdjjkphmchgaaDoorOrd
namespace Go.Proofs.YtbfdjjkphmchgaaDoor
open Go.RowKit Go.Maps
set_option linter.unusedVariables false
set_option linter.unusedSimpArgs false

set_option maxRecDepth 100000 in
set_option maxHeartbeats 2000000 in
theorem rless_any (a b : IdP) (w : World) : Calls Tryd.prog 15 #[a.v, b.v] w fun e w' => e = .returned (.bool (decide (LessP a b))) ∧ Below w.heap.size w w' := by
  go_enter Tryd.func15, Tryd.ntmps15
  unfold IdP.v
  by_cases h1 : a.seq = b.seq
  · have t1 : (a.seq != b.seq) = false := by simp [h1]
    have t1' : (!decide (a.seq = b.seq)) = false := by simp [h1]
    by_cases h2 : a.kind = b.kind
    · have t2 : (a.kind != b.kind) = false := by simp [h2]
      have t2' : (!decide (a.kind = b.kind)) = false := by simp [h2]
      have E1 := Lib.hid (show decide (a.fmt < b.fmt) = decide (LessP a b) by rw [Bool.eq_iff_iff, decide_eq_true_eq, decide_eq_true_eq]; unfold LessP; omega)
      clear h1 h2
      go_wp2_with fail
      go_ret
      exact ⟨congrArg (fun b => Ending.returned (.bool b)) E1.out, below_al (below_al (below_d0 w) _) _⟩
    · have t2 : (a.kind != b.kind) = true := by simp [h2]
      have t2' : (!decide (a.kind = b.kind)) = true := by simp [h2]
      have E1 := Lib.hid (show decide (a.kind < b.kind) = decide (LessP a b) by rw [Bool.eq_iff_iff, decide_eq_true_eq, decide_eq_true_eq]; unfold LessP; omega)
      clear h1 h2
      go_wp2_with fail
      go_ret
      exact ⟨congrArg (fun b => Ending.returned (.bool b)) E1.out, below_al (below_al (below_d0 w) _) _⟩
  · have t1 : (a.seq != b.seq) = true := by simp [h1]
    have t1' : (!decide (a.seq = b.seq)) = true := by simp [h1]
    have E1 := Lib.hid (show decide (a.seq < b.seq) = decide (LessP a b) by rw [Bool.eq_iff_iff, decide_eq_true_eq, decide_eq_true_eq]; unfold LessP; omega)
    clear h1
    go_wp2_with fail
    go_ret
    exact ⟨congrArg (fun b => Ending.returned (.bool b)) E1.out, below_al (below_al (below_d0 w) _) _⟩

set_option maxRecDepth 100000 in
set_option maxHeartbeats 2000000 in
theorem rfind_any (x : IdP) (A : Option Addr) (n c : Nat) (l : List FlP) (w : World) (hP : Pow w) (hl : Fl w w.heap.size A n l) (hn : n ≤ 1000) :
    Calls Tryd.prog 17 #[.slice A n c, x.v] w fun e w' => e = .returned (.int .i64 (foundP l x)) ∧ Below w.heap.size w w' := by
  have Hl := Lib.hid (⟨hl, hP⟩ : _ ∧ _)
  have L1 := Lib.hid hl.1
  clear hl hP
  go_enter Tryd.func17, Tryd.ntmps17
  unfold IdP.v
  go_wp2_with fail
  refine (rname_any x _ (Hl.out.2.on (below_al (below_d0 w) _))).mono ?_
  rintro e w1 ⟨rfl, hb1⟩
  have hB1 := below_on (below_al (below_d0 w) _) hb1
  obtain ⟨N, hN⟩ : ∃ N, N = nameP x := ⟨_, rfl⟩
  rw [← hN]
  by_cases hM : MayP x
  · rw [show errP x = 0 from if_pos hM]
    have hfo : foundP l x = findP l N := by rw [hN]; exact if_pos hM
    have H1 := Lib.hid (⟨hB1, hfo⟩ : _ ∧ _)
    clear hB1 hfo hb1 hM hN
    go_wp2_with fail
    go_loopw [7] (fun s wr => ∃ (k : Nat), k ≤ n ∧ s = .int .i64 k ∧ (∀ y ∈ callsP (l.take k), y.2 ≠ N) ∧ Below w.heap.size w wr) (fun s _ => n - (intOf s).toNat)
    case atStart => exact ⟨0, Nat.zero_le _, rfl, by simp [callsP], H1.out.1⟩
    case round =>
      obtain ⟨k, hk, rfl, hno, hB⟩ := hrel
      by_cases hlt : k < n
      · obtain ⟨b, off, f, rfl, hb, hf, c0, _⟩ := Fl.get (Hl.out.1.on hB (Nat.le_refl _)) hlt
        by_cases e : f.name = N
        · have t1 := names_eq e
          have Hk := Lib.hid (show foundP l x = (k : Int) by
            rw [H1.out.2]
            exact find_hit (pre := callsP (l.take k)) (x := (k, f.name)) (by rw [← calls_succ hf]; exact calls_prefix l (k + 1)) hno e)
          clear e hf hno
          go_wp2_with fail
          go_ret
          exact ⟨congrArg (fun b => Ending.returned (.int .i64 b)) Hk.out.symm, hB⟩
        · have t1 := names_ne e
          have Hk := Lib.hid (show ∀ y ∈ callsP (l.take (k + 1)), y.2 ≠ N by
            intro y hy
            rw [calls_succ hf] at hy
            rcases List.mem_append.1 hy with h | h
            · exact hno y h
            · obtain rfl := List.mem_singleton.1 h
              exact e)
          clear e hf hno
          go_wp2_with fail
          go_roundw
          case rel => exact ⟨k + 1, by omega, by go_num, Hk.out, hB⟩
          case measure => simp [intOf]; omega
      · obtain rfl : k = n := by omega
        have Hk := Lib.hid (show foundP l x = -1 by
          rw [H1.out.2]
          rw [List.take_of_length_le (by rw [L1.out]; exact Nat.le_refl _)] at hno
          exact find_miss hno)
        clear hno
        go_wp2_with fail
        go_ret
        exact ⟨congrArg (fun b => Ending.returned (.int .i64 b)) Hk.out.symm, hB⟩
  · rw [show errP x = 2 from if_neg hM]
    have H1 := Lib.hid (⟨hB1, show foundP l x = -1 from if_neg hM⟩ : _ ∧ _)
    clear hB1 hb1 hM hN
    go_wp2_with fail
    go_loopw [7] (fun s wr => s = .int .i64 0 ∧ wr = w1) (fun _ _ => 0)
    case atStart => exact ⟨rfl, rfl⟩
    case round =>
      obtain ⟨rfl, rfl⟩ := hrel
      by_cases hn0 : 0 < n
      · have t2 : decide ((0 : Int) < (n : Int)) = true := by simp; omega
        go_wp2_with fail
        go_ret
        exact ⟨congrArg (fun b => Ending.returned (.int .i64 b)) H1.out.2.symm, H1.out.1⟩
      · have t2 : decide ((0 : Int) < (n : Int)) = false := by simp; omega
        go_wp2_with fail
        go_ret
        exact ⟨congrArg (fun b => Ending.returned (.int .i64 b)) H1.out.2.symm, H1.out.1⟩

end Go.Proofs.YtbfdjjkphmchgaaDoor
