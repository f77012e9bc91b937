/-
  Plain mathematics of disks: bytes, what is done keeps a disk that may be.
-/
import Derived.Test.YtmfiopopiikbmaaDiskP
namespace Go.Proofs.Ytmfiopopiikbmaa

theorem size_append (l m : List FileP) : sizeP (l ++ m) = sizeP l + sizeP m := by unfold sizeP; rw [List.map_append, List.sum_append]
theorem size_cons (f : FileP) (l : List FileP) : sizeP (f :: l) = f.bytes.length + sizeP l := by unfold sizeP; rw [List.map_cons, List.sum_cons]
theorem size_split (l : List FileP) (k : Nat) : sizeP (l.take k) + sizeP (l.drop k) = sizeP l := by rw [← size_append, List.take_append_drop]
theorem size_without_at {l : List FileP} {k : Nat} {f : FileP} (h : l[k]? = some f) : sizeP (withoutG l k) + f.bytes.length = sizeP l := by
  unfold withoutG
  rw [if_neg (by omega), Int.toNat_natCast, size_append, ← size_split l k]
  obtain ⟨hlt, hk⟩ := List.getElem?_eq_some_iff.1 h
  rw [List.drop_eq_getElem_cons hlt, size_cons, hk]
  omega
theorem size_without (l : List FileP) (k : Int) : sizeP (withoutG l k) ≤ sizeP l := by
  by_cases h0 : k < 0
  · unfold withoutG
    rw [if_pos h0]
    exact Nat.le_refl _
  · obtain ⟨j, rfl⟩ : ∃ j : Nat, k = j := ⟨k.toNat, by omega⟩
    cases hj : l[j]? with
    | some f =>
      have := size_without_at hj
      omega
    | none =>
      unfold withoutG
      have h1 : l.length ≤ j := List.getElem?_eq_none_iff.1 hj
      rw [if_neg h0, Int.toNat_natCast, List.take_of_length_le h1, List.drop_of_length_le (by omega), List.append_nil]
      exact Nat.le_refl _
theorem size_with (l : List FileP) (f : FileP) : sizeP (withG FileP.name l f) = sizeP (withoutG l (findG FileP.name l f.name)) + f.bytes.length := by
  unfold withG
  rw [size_append, size_cons, ← size_split (withoutG l (findG FileP.name l f.name)) (placeG FileP.name (withoutG l (findG FileP.name l f.name)) f.name)]
  omega
/-- A found name stands at a place. -/
theorem find_found {l : List FileP} {s : ByteArray} (h : ¬ findG FileP.name l s < 0) : ∃ (k : Nat) (f : FileP), findG FileP.name l s = k ∧ l[k]? = some f ∧ f.name = s ∧ atP l (findG FileP.name l s) = f.bytes := by
  obtain ⟨k, hk⟩ : ∃ k : Nat, findG FileP.name l s = k := ⟨(findG FileP.name l s).toNat, by omega⟩
  obtain ⟨f, hf, hn⟩ := find_at FileP.name hk
  exact ⟨k, f, hk, hf, hn, by rw [hk]; exact atP_eq hf⟩
theorem size_done (l : List FileP) (o : OpP) : sizeP (doneP l o) ≤ sizeP l + (if o.kind = 2 then o.bytes.length else 0) := by
  by_cases h1 : o.kind = 1
  · rw [done_create h1, size_with]
    have := size_without l (findG FileP.name l o.name)
    simp only [List.length_nil]
    omega
  · by_cases hf : findG FileP.name l o.name < 0
    · rw [done_gone h1 hf]
      omega
    · obtain ⟨k, f, hk, hfk, hn, ha⟩ := find_found hf
      have hs := size_without_at hfk
      by_cases h2 : o.kind = 2
      · rw [done_append h2 hf, size_with, ha, if_pos h2]
        simp only [List.length_append]
        rw [hk]
        omega
      · rw [if_neg h2]
        by_cases h3 : o.kind = 3 ∧ o.to ≠ o.name
        · rw [done_rename h3.1 h3.2 hf, size_with, ha]
          have := size_without (withoutG l (findG FileP.name l o.name)) (findG FileP.name (withoutG l (findG FileP.name l o.name)) o.to)
          rw [hk] at this ⊢
          simp only at this ⊢
          omega
        · by_cases h4 : o.kind = 4
          · rw [done_remove h4 hf, hk]
            omega
          · rw [done_else h1 h2 h3 h4]
            omega

theorem now_snoc (d : DiskP) (o : OpP) : nowP { d with queue := d.queue ++ [o] } = doneP (nowP d) o := by
  unfold nowP allP
  rw [List.foldl_append]
  rfl
theorem right_iff (d : DiskP) : rightP d = true ↔ RiseP d.files ∧ (∀ o ∈ d.queue, fineP o = true) ∧ d.queue.length ≤ 400 ∧ 0 ≤ d.quota ∧ 0 ≤ d.fuse ∧ (usedP d : Int) ≤ d.quota := by
  unfold rightP
  simp only [Bool.and_eq_true, decide_eq_true_eq, List.all_eq_true, and_assoc]
theorem burnt_same (d : DiskP) : (burntP d).files = d.files ∧ (burntP d).queue = d.queue ∧ (burntP d).quota = d.quota ∧ (0 ≤ d.fuse → 0 ≤ (burntP d).fuse) := by
  unfold burntP
  split
  · exact ⟨rfl, rfl, rfl, fun _ => by simp only; omega⟩
  · exact ⟨rfl, rfl, rfl, fun h => h⟩
theorem used_burnt (d : DiskP) : usedP (burntP d) = usedP d := by
  obtain ⟨h1, h2, _⟩ := burnt_same d
  unfold usedP nowP
  rw [h1, h2]
theorem right_burnt {d : DiskP} (h : rightP d = true) : rightP (burntP d) = true := by
  obtain ⟨h1, h2, h3, h4⟩ := burnt_same d
  rw [right_iff] at h ⊢
  rw [h1, h2, h3, used_burnt]
  exact ⟨h.1, h.2.1, h.2.2.1, h.2.2.2.1, h4 h.2.2.2.2.1, h.2.2.2.2.2⟩
/-- What an operation does to a disk: nothing, or it stands behind the queue. -/
theorem do_cases (d : DiskP) (o : OpP) : (doP d o).1 = d ∧ (doP d o).2 ≠ 0 ∨ doP d o = (burntP { d with queue := d.queue ++ [o] }, 0) ∧ rightP d = true ∧ d.dead = false ∧ fineP o = true ∧
    ¬ (o.kind ≠ 1 ∧ findG FileP.name (nowP d) o.name < 0) ∧ ¬ ((o.kind = 2 ∧ d.quota < (usedP d : Int) + o.bytes.length) ∨ 400 ≤ d.queue.length) := by
  unfold doP
  by_cases a : rightP d = false
  · rw [if_pos a]
    exact .inl ⟨rfl, fun h => by simp at h⟩
  rw [if_neg a]
  by_cases b : d.dead = true
  · rw [if_pos b]
    exact .inl ⟨rfl, fun h => by simp at h⟩
  rw [if_neg b]
  by_cases c : fineP o = false
  · rw [if_pos c]
    exact .inl ⟨rfl, fun h => by simp at h⟩
  rw [if_neg c]
  by_cases e : o.kind ≠ 1 ∧ findG FileP.name (nowP d) o.name < 0
  · rw [if_pos e]
    exact .inl ⟨rfl, fun h => by simp at h⟩
  rw [if_neg e]
  by_cases f : (o.kind = 2 ∧ d.quota < (usedP d : Int) + o.bytes.length) ∨ 400 ≤ d.queue.length
  · rw [if_pos f]
    exact .inl ⟨rfl, fun h => by simp at h⟩
  rw [if_neg f]
  exact .inr ⟨rfl, by simpa using a, by simpa using b, by simpa using c, e, f⟩
theorem do_right {d : DiskP} {o : OpP} (h : rightP d = true) : rightP (doP d o).1 = true := by
  rcases do_cases d o with ⟨h1, _⟩ | ⟨h1, _, _, hf, _, hq⟩
  · rw [h1]
    exact h
  · rw [h1]
    refine right_burnt ?_
    rw [right_iff] at h ⊢
    obtain ⟨a, b, c, e, f, g⟩ := h
    refine ⟨a, fun p hp => ?_, ?_, e, f, ?_⟩
    · rcases List.mem_append.1 hp with hp | hp
      · exact b p hp
      · rw [List.mem_singleton.1 hp]
        exact hf
    · simp only [List.length_append, List.length_cons, List.length_nil]
      omega
    · have h2 := size_done (nowP d) o
      unfold usedP
      rw [now_snoc]
      unfold usedP at g hq
      split at h2
      · simp only
        omega
      · simp only
        omega
theorem do_quota (d : DiskP) (o : OpP) : (doP d o).1.quota = d.quota := by
  rcases do_cases d o with ⟨h1, _⟩ | ⟨h1, _⟩
  · rw [h1]
  · rw [h1]
    exact (burnt_same _).2.2.1
theorem do_same {d : DiskP} {o : OpP} (h : (doP d o).2 ≠ 0) : (doP d o).1 = d := by
  rcases do_cases d o with ⟨h1, _⟩ | ⟨h1, _⟩
  · exact h1
  · rw [h1] at h
    exact absurd rfl h
theorem right_used {d : DiskP} (h : rightP d = true) : (usedP d : Int) ≤ d.quota := ((right_iff d).1 h).2.2.2.2.2

end Go.Proofs.Ytmfiopopiikbmaa
