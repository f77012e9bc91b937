/-
  The small run that every law of this layer ends with: what its disks are.
-/
import Derived.Test.YtmfiopopiikbmaaDiskQ
import Derived.Test.YtmfiopopiikbmaaCrash
namespace Go.Proofs.Ytmfiopopiikbmaa
open Go.RowKit

abbrev nA : ByteArray := { data := #[97] }
abbrev nB : ByteArray := { data := #[98] }
abbrev nZ : ByteArray := { data := #[122] }
abbrev n0 : ByteArray := { data := #[] }
abbrev oCr : OpP := ⟨1, nA, n0, []⟩
abbrev oMo : OpP := ⟨2, nA, n0, [1, 2]⟩
abbrev oRm : OpP := ⟨4, nB, n0, []⟩
abbrev oRn : OpP := ⟨3, nA, nZ, []⟩
theorem rise_nil : RiseP [] := fun i f h => by simp at h
theorem rise_one {f : FileP} (h : f.name ≠ ByteArray.empty) : RiseP [f] := fun i g hg => by
  have hi : i = 0 := by
    have := (List.getElem?_eq_some_iff.1 hg).1
    simp at this
    omega
  subst hi
  simp at hg
  subst hg
  exact ⟨h, fun g h0 => by omega⟩
theorem nA_ne : nA ≠ ByteArray.empty := by decide
theorem nB_ne : nB ≠ ByteArray.empty := by decide
theorem nZ_ne : nZ ≠ ByteArray.empty := by decide
theorem fine_cr : fineP oCr = true := by decide
theorem fine_mo : fineP oMo = true := by decide
theorem fine_rm : fineP oRm = true := by decide
theorem fine_rn : fineP oRn = true := by decide
theorem now_0 (q u : Int) (d : Bool) : nowP ⟨[], [oCr], q, u, d⟩ = [⟨nA, []⟩] := rfl
theorem now_1 (q u : Int) (d : Bool) : nowP ⟨[⟨nA, []⟩], [], q, u, d⟩ = [⟨nA, []⟩] := rfl
theorem now_2 (q u : Int) (d : Bool) : nowP ⟨[⟨nA, []⟩], [oMo], q, u, d⟩ = [⟨nA, [1, 2]⟩] := rfl
theorem now_3 (q u : Int) (d : Bool) : nowP ⟨[⟨nA, [1]⟩], [], q, u, d⟩ = [⟨nA, [1]⟩] := rfl
theorem now_4 (q u : Int) (d : Bool) : nowP ⟨[⟨nA, [1]⟩], [oRn], q, u, d⟩ = [⟨nZ, [1]⟩] := rfl

theorem r_0 : rightP ⟨[], [], 3, 0, false⟩ = true := (right_iff _).2 ⟨rise_nil, fun o h => (by cases h), by decide, by decide, by decide, by decide⟩
theorem r_1 : rightP ⟨[], [oCr], 3, 0, false⟩ = true := (right_iff _).2 ⟨rise_nil, fun o h => (by obtain rfl := List.mem_singleton.1 h; exact fine_cr), by decide, by decide, by decide, by decide⟩
theorem r_2 {u : Int} (hu : 0 ≤ u) (d : Bool) : rightP ⟨[⟨nA, []⟩], [], 3, u, d⟩ = true := (right_iff _).2 ⟨rise_one nA_ne, fun o h => (by cases h), by simp, by simp, hu, by unfold usedP; rw [now_1]; simp [sizeP]⟩
theorem r_3 {u : Int} (hu : 0 ≤ u) (d : Bool) : rightP ⟨[⟨nA, []⟩], [oMo], 3, u, d⟩ = true := (right_iff _).2 ⟨rise_one nA_ne, fun o h => (by obtain rfl := List.mem_singleton.1 h; exact fine_mo), by simp, by simp, hu, by unfold usedP; rw [now_2]; simp [sizeP]⟩
theorem r_4 : rightP ⟨[⟨nA, [1]⟩], [], 3, 0, false⟩ = true := (right_iff _).2 ⟨rise_one nA_ne, fun o h => (by cases h), by decide, by decide, by decide, by unfold usedP; rw [now_3]; decide⟩
theorem r_5 : rightP ⟨[⟨nA, [1]⟩], [oRn], 3, 0, false⟩ = true := (right_iff _).2 ⟨rise_one nA_ne, fun o h => (by obtain rfl := List.mem_singleton.1 h; exact fine_rn), by decide, by decide, by decide, by unfold usedP; rw [now_4]; decide⟩
theorem r_no : rightP ⟨[], [], -1, 0, false⟩ = false := Bool.eq_false_iff.2 fun h => by
  have := ((right_iff _).1 h).2.2.2.1
  exact absurd this (by decide)
theorem v_new : newP 3 = ⟨[], [], 3, 0, false⟩ := rfl
theorem v_cr : doP ⟨[], [], 3, 0, false⟩ oCr = (⟨[], [oCr], 3, 0, false⟩, 0) := do_done r_0 rfl fine_cr (fun h => h.1 rfl) (by rintro (h | h); exact absurd h.1 (by decide); exact absurd h (by decide))
theorem v_sync : syncP ⟨[], [oCr], 3, 0, false⟩ = (⟨[⟨nA, []⟩], [], 3, 0, false⟩, 0) := sync_done r_1 rfl
theorem v_mo : doP ⟨[⟨nA, []⟩], [], 3, 0, false⟩ oMo = (⟨[⟨nA, []⟩], [oMo], 3, 0, false⟩, 0) :=
  do_done (r_2 (by decide) _) rfl fine_mo (fun h => by have h2 := h.2; rw [now_1] at h2; exact absurd h2 (by decide)) (by unfold usedP; rw [now_1]; decide)
theorem v_crash : crashP ⟨[⟨nA, []⟩], [oMo], 3, 0, false⟩ 0 1 = ⟨[⟨nA, [1]⟩], [], 3, 0, false⟩ := by
  rw [crash_right (r_3 (by decide) _)]
  rfl
theorem v_full : doP ⟨[⟨nA, []⟩], [oMo], 3, 0, false⟩ oMo = (⟨[⟨nA, []⟩], [oMo], 3, 0, false⟩, 41) :=
  do_full (r_3 (by decide) _) rfl fine_mo (fun h => by have h2 := h.2; rw [now_2] at h2; exact absurd h2 (by decide)) (.inl (by unfold usedP; rw [now_2]; decide))
theorem v_file : doP ⟨[⟨nA, []⟩], [], 3, 0, false⟩ oRm = (⟨[⟨nA, []⟩], [], 3, 0, false⟩, 42) :=
  do_file (r_2 (by decide) _) rfl fine_rm (by decide) (by rw [now_1]; decide)
theorem v_fuse : doP ⟨[⟨nA, []⟩], [], 3, 1, false⟩ oMo = (⟨[⟨nA, []⟩], [oMo], 3, 0, true⟩, 0) :=
  do_done (r_2 (by decide) _) rfl fine_mo (fun h => by have h2 := h.2; rw [now_1] at h2; exact absurd h2 (by decide)) (by unfold usedP; rw [now_1]; decide)
theorem v_down : syncP ⟨[⟨nA, []⟩], [oMo], 3, 0, true⟩ = (⟨[⟨nA, []⟩], [oMo], 3, 0, true⟩, 40) := sync_dead (r_3 (by decide) _) rfl
theorem v_rn : doP ⟨[⟨nA, [1]⟩], [], 3, 0, false⟩ oRn = (⟨[⟨nA, [1]⟩], [oRn], 3, 0, false⟩, 0) :=
  do_done r_4 rfl fine_rn (fun h => by have h2 := h.2; rw [now_3] at h2; exact absurd h2 (by decide)) (by unfold usedP; rw [now_3]; decide)
theorem v_read : readP ⟨[⟨nA, [1]⟩], [oRn], 3, 0, false⟩ nZ = ([1], 0) := by
  unfold readP
  rw [now_4]
  rfl
theorem v_used : usedP ⟨[⟨nA, []⟩], [oMo], 3, 0, true⟩ = 2 := rfl

end Go.Proofs.Ytmfiopopiikbmaa
