/-
  Plain mathematics of disks: no name is longer than a text may be.
-/
import Derived.Test.YtmfiopopiikbmaaSafe
namespace Go.Proofs.Ytmfiopopiikbmaa

def NmF (l : List FileP) : Prop := ∀ f ∈ l, f.name.size ≤ maxLen
def NmO (q : List OpP) : Prop := ∀ o ∈ q, o.name.size ≤ maxLen ∧ o.to.size ≤ maxLen
/-- No name of a disk is too long. -/
structure Nms (d : DiskP) : Prop where
  files : NmF d.files
  queue : NmO d.queue
theorem NmF.without {l : List FileP} (h : NmF l) (k : Int) : NmF (withoutG l k) := fun f hf => h f (without_mem hf)
theorem NmF.with_ {l : List FileP} (h : NmF l) {f : FileP} (hf : f.name.size ≤ maxLen) : NmF (withG FileP.name l f) := fun g hg => by
  rcases with_mem FileP.name hg with rfl | hg
  · exact hf
  · exact h g hg
theorem NmF.done {l : List FileP} (h : NmF l) {o : OpP} (ho : o.name.size ≤ maxLen ∧ o.to.size ≤ maxLen) : NmF (doneP l o) := by
  unfold doneP
  split
  · exact h.with_ ho.1
  · split
    · exact h
    · split
      · exact h.with_ ho.1
      · split
        · exact (h.without _).with_ ho.2
        · split
          · exact h.without _
          · exact h
theorem NmF.dones (q : List OpP) (hq : NmO q) : ∀ l, NmF l → NmF (q.foldl doneP l) := by
  induction q with
  | nil => intro l hl; exact hl
  | cons o r ih => exact fun l hl => ih (fun p hp => hq p (by simp [hp])) _ (hl.done (hq o (by simp)))
theorem NmF.firsts (r : List FileP) (hr : NmF r) : ∀ l, NmF l → NmF (r.foldl firstStep l) := by
  induction r with
  | nil => intro l hl; exact hl
  | cons f r ih =>
    intro l hl
    refine ih (fun p hp => hr p (by simp [hp])) _ ?_
    unfold firstStep
    split
    · exact hl.with_ (hr f (by simp))
    · exact hl
theorem NmF.all {l : List FileP} {q : List OpP} (h : NmF l) (hq : NmO q) : NmF (allP l q) := NmF.dones q hq _ (NmF.firsts l h [] (fun _ hf => by cases hf))
theorem Nms.now {d : DiskP} (h : Nms d) : NmF (nowP d) := h.files.all h.queue
theorem Nms.burnt {d : DiskP} (h : Nms d) : Nms (burntP d) := ⟨by rw [(burnt_same d).1]; exact h.files, by rw [(burnt_same d).2.1]; exact h.queue⟩
theorem Nms.do_ {d : DiskP} (h : Nms d) {o : OpP} (ho : o.name.size ≤ maxLen ∧ o.to.size ≤ maxLen) : Nms (doP d o).1 := by
  rcases do_cases d o with h1 | h1
  · rw [h1.1]; exact h
  · rw [h1.1]
    refine Nms.burnt ⟨h.files, fun p hp => ?_⟩
    rcases List.mem_append.1 hp with hp | hp
    · exact h.queue p hp
    · obtain rfl := List.mem_singleton.1 hp
      exact ho
theorem NmO.take {q : List OpP} (h : NmO q) (k : Nat) : NmO (q.take k) := fun o ho => h o (List.mem_of_mem_take ho)
theorem Nms.sync {d : DiskP} (h : Nms d) : Nms (syncP d).1 := by
  unfold syncP
  split
  · exact h
  · split
    · exact h
    · exact Nms.burnt ⟨h.now, fun o ho => by cases ho⟩
theorem Nms.crash {d : DiskP} (h : Nms d) (keep torn : Int) : Nms (crashP d keep torn) := by
  cases hr : rightP d
  · unfold crashP
    rw [if_pos hr]
    exact h
  · unfold crashP
    rw [if_neg (by rw [hr]; decide)]
    refine ⟨?_, fun o ho => by cases ho⟩
    have h1 := h.files.all (h.queue.take (cutP keep d.queue.length))
    show NmF (match d.queue[cutP keep d.queue.length]? with
      | some o => if o.kind = 2 then doneP (allP d.files (d.queue.take (cutP keep d.queue.length))) { o with bytes := o.bytes.take (cutP torn o.bytes.length) } else allP d.files (d.queue.take (cutP keep d.queue.length))
      | none => allP d.files (d.queue.take (cutP keep d.queue.length)))
    split
    · rename_i o ho
      have h2 := h.queue o (List.mem_of_getElem? ho)
      split
      · exact h1.done h2
      · exact h1
    · exact h1
theorem nms_new (q : Int) : Nms (newP q) := ⟨fun f (h : f ∈ []) => (by cases h), fun f (h : f ∈ []) => (by cases h)⟩

end Go.Proofs.Ytmfiopopiikbmaa
