/-
  Plain mathematics of disks: rows of files that rise stay as they are; a disk that may be, made safe.
-/
import Derived.Test.YtmfiopopiikbmaaLook
namespace Go.Proofs.Ytmfiopopiikbmaa

theorem while_all {α : Type} (q : α → Bool) (l : List α) (h : ∀ x ∈ l, q x = true) : l.takeWhile q = l ∧ l.dropWhile q = [] := by
  induction l with
  | nil => exact ⟨rfl, rfl⟩
  | cons x r ih =>
    have h1 := ih (fun y hy => h y (by simp [hy]))
    rw [List.takeWhile_cons, List.dropWhile_cons, h x (by simp)]
    exact ⟨by simp only [if_true]; rw [h1.1], by simp only [if_true]; exact h1.2⟩
theorem with_last {l : List FileP} {f : FileP} (h : ∀ g ∈ l, lessL g.name f.name = true) : findG FileP.name l f.name < 0 ∧ withG FileP.name l f = l ++ [f] := by
  have h1 : findG FileP.name l f.name = -1 := find_miss FileP.name (fun y hy => less_ne (h y hy))
  refine ⟨by omega, ?_⟩
  rw [with_eq]
  have h2 : withoutG l (findG FileP.name l f.name) = l := by unfold withoutG; rw [if_pos (by omega)]
  rw [h2, (while_all _ l h).1, (while_all _ l h).2]
theorem firsts_from (r : List FileP) : ∀ acc : List FileP, Sorted (acc ++ r) → r.foldl firstStep acc = acc ++ r := by
  induction r with
  | nil => intro acc _; simp
  | cons f r ih =>
    intro acc h
    obtain ⟨_, h2, h3⟩ := List.pairwise_append.1 h
    obtain ⟨h4, h5⟩ := with_last (l := acc) (f := f) (fun g hg => h3 g hg f (by simp))
    rw [List.foldl_cons, show firstStep acc f = acc ++ [f] by unfold firstStep; rw [if_pos h4, h5], ih (acc ++ [f]) (by rw [List.append_assoc]; exact h), List.append_assoc]
    rfl
theorem firsts_sorted {l : List FileP} (h : Sorted l) : firstsP l = l := by
  rw [firsts_eq, firsts_from l [] h]
  rfl
theorem all_nil {l : List FileP} (h : Sorted l) : allP l [] = l := by
  unfold allP
  rw [firsts_sorted h]
  rfl
theorem now_safe {d : DiskP} (h : Sorted d.files) (hq : d.queue = []) : nowP d = d.files := by
  unfold nowP
  rw [hq]
  exact all_nil h

/-- The names are none of them empty. -/
def Named (l : List FileP) : Prop := ∀ f ∈ l, f.name ≠ ByteArray.empty
theorem rise_iff (l : List FileP) : RiseP l ↔ Sorted l ∧ Named l := by
  constructor
  · intro h
    refine ⟨?_, fun f hf => ?_⟩
    · have key : ∀ (n i : Nat) (f g : FileP), l[i]? = some f → l[i + (n + 1)]? = some g → lessL f.name g.name = true := by
        intro n
        induction n with
        | zero =>
          intro i f g hf hg
          exact (h (i + 1) g hg).2 f (by omega) hf
        | succ n ih =>
          intro i f g hf hg
          have hlt := (List.getElem?_eq_some_iff.1 hg).1
          have hm : l[i + (n + 1)]? = some l[i + (n + 1)] := List.getElem?_eq_getElem (by omega)
          exact less_trans (ih i f _ hf hm) ((h (i + (n + 1) + 1) g hg).2 _ (by omega) hm)
      unfold Sorted
      rw [List.pairwise_iff_getElem]
      intro i j hi hj hij
      have := key (j - i - 1) i l[i] l[j] (List.getElem?_eq_getElem hi) (by rw [show i + (j - i - 1 + 1) = j by omega]; exact List.getElem?_eq_getElem hj)
      exact this
    · obtain ⟨i, hi⟩ := List.mem_iff_getElem?.1 hf
      exact (h i f hi).1
  · rintro ⟨h1, h2⟩ i f hf
    refine ⟨h2 f (List.mem_of_getElem? hf), fun g h0 hg => ?_⟩
    unfold Sorted at h1
    rw [List.pairwise_iff_getElem] at h1
    obtain ⟨a, ha⟩ := List.getElem?_eq_some_iff.1 hf
    obtain ⟨b, hb⟩ := List.getElem?_eq_some_iff.1 hg
    have := h1 (i - 1) i b a (by omega)
    rw [ha, hb] at this
    exact this
theorem fine_iff (o : OpP) : fineP o = true ↔ 1 ≤ o.kind ∧ o.kind ≤ 4 ∧ o.name ≠ ByteArray.empty ∧ (o.kind = 3 → o.to ≠ ByteArray.empty) := by
  unfold fineP
  rw [decide_eq_true_eq]
theorem Named.without {l : List FileP} (h : Named l) (k : Int) : Named (withoutG l k) := fun f hf => h f (without_mem hf)
theorem Named.with_ {l : List FileP} (h : Named l) {f : FileP} (hf : f.name ≠ ByteArray.empty) : Named (withG FileP.name l f) := fun g hg => by
  rcases with_mem FileP.name hg with rfl | hg
  · exact hf
  · exact h g hg
theorem Named.done {l : List FileP} (h : Named l) {o : OpP} (ho : fineP o = true) : Named (doneP l o) := by
  obtain ⟨_, _, h3, h4⟩ := (fine_iff o).1 ho
  unfold doneP
  split
  · exact h.with_ h3
  · split
    · exact h
    · split
      · exact h.with_ h3
      · split
        · rename_i hk
          exact (h.without _).with_ (h4 hk.1)
        · split
          · exact h.without _
          · exact h
theorem Named.dones (q : List OpP) (hq : ∀ o ∈ q, fineP o = true) : ∀ l : List FileP, Named l → Named (q.foldl doneP l) := by
  induction q with
  | nil => intro l h; exact h
  | cons o r ih =>
    intro l h
    rw [List.foldl_cons]
    exact ih (fun p hp => hq p (by simp [hp])) _ (h.done (hq o (by simp)))
theorem right_sorted {d : DiskP} (h : rightP d = true) : Sorted d.files ∧ Named d.files := (rise_iff _).1 ((right_iff d).1 h).1
theorem right_now {d : DiskP} (h : rightP d = true) : RiseP (nowP d) := by
  refine (rise_iff _).2 ⟨sorted_now d, ?_⟩
  unfold nowP allP
  rw [firsts_sorted (right_sorted h).1]
  exact Named.dones _ ((right_iff d).1 h).2.1 _ (right_sorted h).2
/-- Made safe: the files are those of now, and so they are then. -/
theorem sync_now {d : DiskP} (h : rightP d = true) (hd : d.dead = false) : (syncP d).2 = 0 ∧ (syncP d).1.files = nowP d ∧ (syncP d).1.queue = [] ∧ nowP (syncP d).1 = nowP d ∧ rightP (syncP d).1 = true := by
  have e : syncP d = (burntP { d with files := nowP d, queue := [] }, 0) := by
    unfold syncP
    rw [if_neg (by rw [h]; decide), if_neg (by rw [hd]; decide)]
  obtain ⟨a, b, _⟩ := burnt_same { d with files := nowP d, queue := [] }
  have hn : nowP { d with files := nowP d, queue := [] } = nowP d := now_safe (d := { d with files := nowP d, queue := [] }) (sorted_now d) rfl
  rw [e]
  refine ⟨rfl, a, b, ?_, right_burnt ?_⟩
  · refine Eq.trans ?_ hn
    show allP (burntP { d with files := nowP d, queue := [] }).files (burntP { d with files := nowP d, queue := [] }).queue = _
    rw [a, b]
    rfl
  · have h1 := (right_iff d).1 h
    refine (right_iff _).2 ⟨right_now h, fun o ho => by simp at ho, by simp, h1.2.2.2.1, h1.2.2.2.2.1, ?_⟩
    unfold usedP
    rw [hn]
    exact h1.2.2.2.2.2
theorem crash_files {d : DiskP} (h : rightP d = true) (keep torn : Int) : (crashP d keep torn).queue = [] ∧ (crashP d keep torn).dead = false := by
  unfold crashP
  rw [if_neg (by rw [h]; decide)]
  exact ⟨rfl, rfl⟩

end Go.Proofs.Ytmfiopopiikbmaa
