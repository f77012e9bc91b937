/-
  The calls of the small run.
-/
import Derived.Test.YtmfiopopiikbmaaWakes
namespace Go.Proofs.Ytmfiopopiikbmaa
open Go.RowKit Go.Maps

theorem dat_nil (W : World) (q u : Int) (dd : Bool) : DAt W ⟨[], [], q, u, dd⟩ none 0 0 none 0 0 := ⟨Nat.le_refl _, Nat.le_refl _, ⟨[], Fs.nil, rfl⟩, ⟨[], Os.nil, rfl⟩⟩
theorem small_0 : Small ⟨[], [], 3, 0, false⟩ := ⟨by simp, by simp, fun f hf => (by simp at hf; try (subst hf; simp)), fun o ho => (by simp at ho; try (subst ho; simp))⟩
theorem nms_0 : Nms ⟨[], [], 3, 0, false⟩ := ⟨fun f hf => (by simp at hf; try (subst hf; show ByteArray.size _ ≤ _; decide)), fun o ho => (by simp at ho; try (subst ho; exact ⟨by decide, by decide⟩))⟩
theorem small_c : Small ⟨[], [oCr], 3, 0, false⟩ := ⟨by simp, by simp, fun f hf => (by simp at hf; try (subst hf; simp)), fun o ho => (by simp at ho; try (subst ho; simp))⟩
theorem nms_c : Nms ⟨[], [oCr], 3, 0, false⟩ := ⟨fun f hf => (by simp at hf; try (subst hf; show ByteArray.size _ ≤ _; decide)), fun o ho => (by simp at ho; try (subst ho; exact ⟨by decide, by decide⟩))⟩
theorem small_1 : Small ⟨[⟨nA, []⟩], [], 3, 0, false⟩ := ⟨by simp, by simp, fun f hf => (by simp at hf; try (subst hf; simp)), fun o ho => (by simp at ho; try (subst ho; simp))⟩
theorem nms_1 : Nms ⟨[⟨nA, []⟩], [], 3, 0, false⟩ := ⟨fun f hf => (by simp at hf; try (subst hf; show ByteArray.size _ ≤ _; decide)), fun o ho => (by simp at ho; try (subst ho; exact ⟨by decide, by decide⟩))⟩
theorem small_f : Small ⟨[⟨nA, []⟩], [], 3, 1, false⟩ := ⟨by simp, by simp, fun f hf => (by simp at hf; try (subst hf; simp)), fun o ho => (by simp at ho; try (subst ho; simp))⟩
theorem nms_f : Nms ⟨[⟨nA, []⟩], [], 3, 1, false⟩ := ⟨fun f hf => (by simp at hf; try (subst hf; show ByteArray.size _ ≤ _; decide)), fun o ho => (by simp at ho; try (subst ho; exact ⟨by decide, by decide⟩))⟩
theorem small_2 : Small ⟨[⟨nA, []⟩], [oMo], 3, 0, false⟩ := ⟨by simp, by simp, fun f hf => (by simp at hf; try (subst hf; simp)), fun o ho => (by simp at ho; try (subst ho; simp))⟩
theorem nms_2 : Nms ⟨[⟨nA, []⟩], [oMo], 3, 0, false⟩ := ⟨fun f hf => (by simp at hf; try (subst hf; show ByteArray.size _ ≤ _; decide)), fun o ho => (by simp at ho; try (subst ho; exact ⟨by decide, by decide⟩))⟩
theorem small_x : Small ⟨[⟨nA, []⟩], [oMo], 3, 0, true⟩ := ⟨by simp, by simp, fun f hf => (by simp at hf; try (subst hf; simp)), fun o ho => (by simp at ho; try (subst ho; simp))⟩
theorem nms_x : Nms ⟨[⟨nA, []⟩], [oMo], 3, 0, true⟩ := ⟨fun f hf => (by simp at hf; try (subst hf; show ByteArray.size _ ≤ _; decide)), fun o ho => (by simp at ho; try (subst ho; exact ⟨by decide, by decide⟩))⟩
theorem small_3 : Small ⟨[⟨nA, [1]⟩], [], 3, 0, false⟩ := ⟨by simp, by simp, fun f hf => (by simp at hf; try (subst hf; simp)), fun o ho => (by simp at ho; try (subst ho; simp))⟩
theorem nms_3 : Nms ⟨[⟨nA, [1]⟩], [], 3, 0, false⟩ := ⟨fun f hf => (by simp at hf; try (subst hf; show ByteArray.size _ ≤ _; decide)), fun o ho => (by simp at ho; try (subst ho; exact ⟨by decide, by decide⟩))⟩
theorem small_4 : Small ⟨[⟨nA, [1]⟩], [oRn], 3, 0, false⟩ := ⟨by simp, by simp, fun f hf => (by simp at hf; try (subst hf; simp)), fun o ho => (by simp at ho; try (subst ho; simp))⟩
theorem nms_4 : Nms ⟨[⟨nA, [1]⟩], [oRn], 3, 0, false⟩ := ⟨fun f hf => (by simp at hf; try (subst hf; show ByteArray.size _ ≤ _; decide)), fun o ho => (by simp at ho; try (subst ho; exact ⟨by decide, by decide⟩))⟩
abbrev oC : OpM := ⟨1, nA, n0, ⟨none, 0, 0, []⟩⟩
abbrev oM (y : Nat) : OpM := ⟨2, nA, n0, ⟨some ⟨y, 0, none⟩, 2, 2, [1, 2]⟩⟩
abbrev oR : OpM := ⟨3, nA, nZ, ⟨none, 0, 0, []⟩⟩
abbrev oX : OpM := ⟨4, nB, n0, ⟨none, 0, 0, []⟩⟩
theorem oM_fine (y : Nat) : (0 ≤ (oM y).kind ∧ (oM y).kind ≤ 255) ∧ (oM y).p.n ≤ 1048576 ∧ (oM y).name.size ≤ maxLen := ⟨⟨show (0 : Int) ≤ 2 by decide, show (2 : Int) ≤ 255 by decide⟩, show 2 ≤ 1048576 by decide, show nA.size ≤ maxLen by decide⟩
theorem ok_none (W : World) : Byts.Ok W W.heap.size ⟨none, 0, 0, []⟩ := ⟨Rd.nil, Byt.nil, Nat.le_refl _⟩
theorem ops_cr {W : World} {A : Option Addr} {n c : Nat} {B : Option Addr} {m k : Nat} {g : Nat}  (h : DAt W ⟨[], [], 3, 0, false⟩ A n c B m k) (hg : Box4 W g oC) (ho : (oC).p.Ok W W.heap.size) :
    Calls Try.prog 30 #[.agg #[.slice A n c, .slice B m k, .int .i64 3, .int .i64 0, .bool false], .slice (some ⟨g, 0, none⟩) 1 1] W fun e w' => (∃ A' n' c' B' m' k', e = .returned (.agg #[.slice A' n' c', .slice B' m' k', .int .i64 3, .int .i64 0, .bool false]) ∧ DAt w' ⟨[], [oCr], 3, 0, false⟩ A' n' c' B' m' k') ∧ Below W.heap.size W w' := by
  have h1 := ops_one h small_0 nms_0 (by decide) hg ho ⟨by decide, by decide⟩ (by decide) (by show ByteArray.size _ ≤ _; decide)
  rw [show OpM.pure oC = oCr from rfl, v_cr] at h1
  exact h1
theorem ops_mo {W : World} {A : Option Addr} {n c : Nat} {B : Option Addr} {m k : Nat} {g : Nat} {y : Nat} (h : DAt W ⟨[⟨nA, []⟩], [], 3, 0, false⟩ A n c B m k) (hg : Box4 W g (oM y)) (ho : ((oM y)).p.Ok W W.heap.size) :
    Calls Try.prog 30 #[.agg #[.slice A n c, .slice B m k, .int .i64 3, .int .i64 0, .bool false], .slice (some ⟨g, 0, none⟩) 1 1] W fun e w' => (∃ A' n' c' B' m' k', e = .returned (.agg #[.slice A' n' c', .slice B' m' k', .int .i64 3, .int .i64 0, .bool false]) ∧ DAt w' ⟨[⟨nA, []⟩], [oMo], 3, 0, false⟩ A' n' c' B' m' k') ∧ Below W.heap.size W w' := by
  have h1 := ops_one h small_1 nms_1 (by decide) hg ho (oM_fine y).1 (oM_fine y).2.1 (oM_fine y).2.2
  rw [show OpM.pure (oM y) = oMo from rfl, v_mo] at h1
  exact h1
theorem ops_fu {W : World} {A : Option Addr} {n c : Nat} {B : Option Addr} {m k : Nat} {g : Nat} {y : Nat} (h : DAt W ⟨[⟨nA, []⟩], [], 3, 1, false⟩ A n c B m k) (hg : Box4 W g (oM y)) (ho : ((oM y)).p.Ok W W.heap.size) :
    Calls Try.prog 30 #[.agg #[.slice A n c, .slice B m k, .int .i64 3, .int .i64 1, .bool false], .slice (some ⟨g, 0, none⟩) 1 1] W fun e w' => (∃ A' n' c' B' m' k', e = .returned (.agg #[.slice A' n' c', .slice B' m' k', .int .i64 3, .int .i64 0, .bool true]) ∧ DAt w' ⟨[⟨nA, []⟩], [oMo], 3, 0, true⟩ A' n' c' B' m' k') ∧ Below W.heap.size W w' := by
  have h1 := ops_one h small_f nms_f (by decide) hg ho (oM_fine y).1 (oM_fine y).2.1 (oM_fine y).2.2
  rw [show OpM.pure (oM y) = oMo from rfl, v_fuse] at h1
  exact h1
theorem ops_rn {W : World} {A : Option Addr} {n c : Nat} {B : Option Addr} {m k : Nat} {g : Nat}  (h : DAt W ⟨[⟨nA, [1]⟩], [], 3, 0, false⟩ A n c B m k) (hg : Box4 W g oR) (ho : (oR).p.Ok W W.heap.size) :
    Calls Try.prog 30 #[.agg #[.slice A n c, .slice B m k, .int .i64 3, .int .i64 0, .bool false], .slice (some ⟨g, 0, none⟩) 1 1] W fun e w' => (∃ A' n' c' B' m' k', e = .returned (.agg #[.slice A' n' c', .slice B' m' k', .int .i64 3, .int .i64 0, .bool false]) ∧ DAt w' ⟨[⟨nA, [1]⟩], [oRn], 3, 0, false⟩ A' n' c' B' m' k') ∧ Below W.heap.size W w' := by
  have h1 := ops_one h small_3 nms_3 (by decide) hg ho ⟨by decide, by decide⟩ (by decide) (by show ByteArray.size _ ≤ _; decide)
  rw [show OpM.pure oR = oRn from rfl, v_rn] at h1
  exact h1
theorem sync_cr {W : World} {A : Option Addr} {n c : Nat} {B : Option Addr} {m k : Nat} (h : DAt W ⟨[], [oCr], 3, 0, false⟩ A n c B m k) :
    Calls Try.prog 12 #[.agg #[.slice A n c, .slice B m k, .int .i64 3, .int .i64 0, .bool false]] W fun e w' => (∃ A' n' c' B' m' k', e = .returned (.tuple #[.agg #[.slice A' n' c', .slice B' m' k', .int .i64 3, .int .i64 0, .bool false], .int .i64 0]) ∧ DAt w' ⟨[⟨nA, []⟩], [], 3, 0, false⟩ A' n' c' B' m' k') ∧ Below W.heap.size W w' := by
  have h1 := dev_sync h small_c nms_c (by decide)
  rw [v_sync] at h1
  exact h1
theorem sync_x {W : World} {A : Option Addr} {n c : Nat} {B : Option Addr} {m k : Nat} (h : DAt W ⟨[⟨nA, []⟩], [oMo], 3, 0, true⟩ A n c B m k) :
    Calls Try.prog 12 #[.agg #[.slice A n c, .slice B m k, .int .i64 3, .int .i64 0, .bool true]] W fun e w' => (∃ A' n' c' B' m' k', e = .returned (.tuple #[.agg #[.slice A' n' c', .slice B' m' k', .int .i64 3, .int .i64 0, .bool true], .int .i64 40]) ∧ DAt w' ⟨[⟨nA, []⟩], [oMo], 3, 0, true⟩ A' n' c' B' m' k') ∧ Below W.heap.size W w' := by
  have h1 := dev_sync h small_x nms_x (by decide)
  rw [v_down] at h1
  exact h1
theorem do_mo {W : World} {A : Option Addr} {n c : Nat} {B : Option Addr} {m k : Nat} {y : Nat} (h : DAt W ⟨[⟨nA, []⟩], [oMo], 3, 0, false⟩ A n c B m k) (ho : ((oM y)).p.Ok W W.heap.size) :
    Calls Try.prog 10 #[.agg #[.slice A n c, .slice B m k, .int .i64 3, .int .i64 0, .bool false], .agg #[.int .u8 2, .string nA, .string n0, .slice (some ⟨y, 0, none⟩) 2 2]] W fun e w' => (∃ A' n' c' B' m' k', e = .returned (.tuple #[.agg #[.slice A' n' c', .slice B' m' k', .int .i64 3, .int .i64 0, .bool false], .int .i64 41]) ∧ DAt w' ⟨[⟨nA, []⟩], [oMo], 3, 0, false⟩ A' n' c' B' m' k') ∧ Below W.heap.size W w' := by
  have h1 := dev_doD (oM y) h small_2 nms_2 (by decide) ho (oM_fine y).1 (oM_fine y).2.1 (oM_fine y).2.2
  rw [show OpM.pure (oM y) = oMo from rfl, v_full] at h1
  exact h1
theorem do_rm {W : World} {A : Option Addr} {n c : Nat} {B : Option Addr} {m k : Nat}  (h : DAt W ⟨[⟨nA, []⟩], [], 3, 0, false⟩ A n c B m k) (ho : (oX).p.Ok W W.heap.size) :
    Calls Try.prog 10 #[.agg #[.slice A n c, .slice B m k, .int .i64 3, .int .i64 0, .bool false], .agg #[.int .u8 4, .string nB, .string n0, .slice none 0 0]] W fun e w' => (∃ A' n' c' B' m' k', e = .returned (.tuple #[.agg #[.slice A' n' c', .slice B' m' k', .int .i64 3, .int .i64 0, .bool false], .int .i64 42]) ∧ DAt w' ⟨[⟨nA, []⟩], [], 3, 0, false⟩ A' n' c' B' m' k') ∧ Below W.heap.size W w' := by
  have h1 := dev_doD oX h small_1 nms_1 (by decide) ho ⟨by decide, by decide⟩ (by decide) (by show ByteArray.size _ ≤ _; decide)
  rw [show OpM.pure oX = oRm from rfl, v_file] at h1
  exact h1
theorem crash_mo {W : World} {A : Option Addr} {n c : Nat} {B : Option Addr} {m k : Nat} (h : DAt W ⟨[⟨nA, []⟩], [oMo], 3, 0, false⟩ A n c B m k) :
    Calls Try.prog 20 #[.agg #[.slice A n c, .slice B m k, .int .i64 3, .int .i64 0, .bool false], .int .i64 0, .int .i64 1] W fun e w' => (∃ A' n' c' B' m' k', e = .returned (.agg #[.slice A' n' c', .slice B' m' k', .int .i64 3, .int .i64 0, .bool false]) ∧ DAt w' ⟨[⟨nA, [1]⟩], [], 3, 0, false⟩ A' n' c' B' m' k') ∧ Below W.heap.size W w' := by
  have h1 := dev_crash 0 1 h small_2 nms_2
  rw [v_crash] at h1
  exact h1
theorem read_z {W : World} {A : Option Addr} {n c : Nat} {B : Option Addr} {m k : Nat} (h : DAt W ⟨[⟨nA, [1]⟩], [oRn], 3, 0, false⟩ A n c B m k) :
    Calls Try.prog 14 #[.agg #[.slice A n c, .slice B m k, .int .i64 3, .int .i64 0, .bool false], .string nZ] W fun e w' => ReadOut [1] 0 e w' ∧ Below W.heap.size W w' := by
  have h1 := dev_read nZ h small_4 nms_4 (by decide)
  rw [v_read] at h1
  exact h1
theorem used_x {W : World} {A : Option Addr} {n c : Nat} {B : Option Addr} {m k : Nat} (h : DAt W ⟨[⟨nA, []⟩], [oMo], 3, 0, true⟩ A n c B m k) :
    Calls Try.prog 25 #[.agg #[.slice A n c, .slice B m k, .int .i64 3, .int .i64 0, .bool true]] W fun e w' => e = .returned (.int .i64 2) ∧ Below W.heap.size W w' := by
  have h1 := dev_usedD h small_x nms_x
  rw [v_used] at h1
  exact h1
theorem right_x {W : World} {A : Option Addr} {n c : Nat} {B : Option Addr} {m k : Nat} (h : DAt W ⟨[⟨nA, []⟩], [oMo], 3, 0, true⟩ A n c B m k) :
    Calls Try.prog 17 #[.agg #[.slice A n c, .slice B m k, .int .i64 3, .int .i64 0, .bool true]] W fun e w' => e = .returned (.bool true) ∧ Below W.heap.size W w' := by
  have h1 := dev_right h small_x nms_x
  rw [r_3 (by decide) _] at h1
  exact h1
theorem right_nil (W : World) :
    Calls Try.prog 17 #[.agg #[.slice none 0 0, .slice none 0 0, .int .i64 (-1), .int .i64 0, .bool false]] W fun e w' => e = .returned (.bool false) ∧ Below W.heap.size W w' := by
  have h1 := dev_right (dat_nil W (-1) 0 false) ⟨by simp, by simp, fun f hf => (by cases hf), fun o ho => (by cases ho)⟩ ⟨fun f hf => (by cases hf), fun o ho => (by cases ho)⟩
  rw [r_no] at h1
  exact h1

end Go.Proofs.Ytmfiopopiikbmaa
