/-
  What a run of Do keeps small.
-/
import Derived.Test.YtmfiopopiikbmaaWakesC
import Derived.Test.YtmfiopopiikbmaaGreat
namespace Go.Proofs.Ytmfiopopiikbmaa
open Go.RowKit

/-- A disk that is not great is small. -/
theorem small_of {d : DiskP} (h : greatP d = false) : Small d ∧ d.files.length ≤ 30 ∧ d.queue.length ≤ 60 ∧ (∀ f ∈ d.files, f.bytes.length ≤ 1000) ∧ ∀ o ∈ d.queue, o.bytes.length ≤ 1000 := by
  have h1 : ¬ greatP d = true := by rw [h]; decide
  rw [great_iff] at h1
  have a : ∀ f ∈ d.files, f.bytes.length ≤ 1000 := fun f hf => by
    refine Nat.le_of_not_lt (fun hl => h1 (.inr (.inr (.inl ⟨f, hf, hl⟩))))
  have b : ∀ o ∈ d.queue, o.bytes.length ≤ 1000 := fun o ho => by
    refine Nat.le_of_not_lt (fun hl => h1 (.inr (.inr (.inr ⟨o, ho, hl⟩))))
  have c : d.files.length ≤ 30 := Nat.le_of_not_lt (fun hl => h1 (.inl hl))
  have e : d.queue.length ≤ 60 := Nat.le_of_not_lt (fun hl => h1 (.inr (.inl hl)))
  exact ⟨⟨by omega, by omega, fun f hf => Nat.le_trans (a f hf) (by omega), fun o ho => Nat.le_trans (b o ho) (by omega)⟩, c, e, a, b⟩
/-- A disk that is small, of at most k operations. -/
structure Run (k : Nat) (d : DiskP) : Prop where
  files : d.files.length ≤ 30
  queue : d.queue.length ≤ k
  fb : ∀ f ∈ d.files, f.bytes.length ≤ 1000
  ob : ∀ o ∈ d.queue, o.bytes.length ≤ 1000
  nms : Nms d
  fuse : d.fuse ≤ 9223372036854775807
theorem Run.small {k : Nat} {d : DiskP} (h : Run k d) (hk : k ≤ 1000) : Small d := ⟨by have := h.files; omega, Nat.le_trans h.queue hk, fun f hf => Nat.le_trans (h.fb f hf) (by omega), fun o ho => Nat.le_trans (h.ob o ho) (by omega)⟩
theorem Run.of {d : DiskP} (h : greatP d = false) (hn : Nms d) (hu : d.fuse ≤ 9223372036854775807) : Run 60 d := ⟨(small_of h).2.1, (small_of h).2.2.1, (small_of h).2.2.2.1, (small_of h).2.2.2.2, hn, hu⟩
theorem burnt_fuse (d : DiskP) : (burntP d).fuse ≤ d.fuse := by
  unfold burntP
  split
  · show d.fuse - 1 ≤ d.fuse
    omega
  · exact Int.le_refl _
theorem Run.do_ {k : Nat} {d : DiskP} (h : Run k d) {o : OpP} (ho : o.bytes.length ≤ 1000) (hn : o.name.size ≤ maxLen ∧ o.to.size ≤ maxLen) : Run (k + 1) (doP d o).1 := by
  have hnm := h.nms.do_ hn
  rcases do_cases d o with ⟨h1, _⟩ | ⟨h1, _⟩
  · rw [h1]
    exact ⟨h.files, Nat.le_succ_of_le h.queue, h.fb, h.ob, h.nms, h.fuse⟩
  · rw [h1] at hnm ⊢
    obtain ⟨a, b, _, _⟩ := burnt_same { d with queue := d.queue ++ [o] }
    refine ⟨?_, ?_, ?_, ?_, hnm, Int.le_trans (burnt_fuse _) h.fuse⟩
    · show (burntP _).files.length ≤ 30
      rw [a]; exact h.files
    · show (burntP _).queue.length ≤ k + 1
      rw [b]
      have := h.queue
      simp
      omega
    · intro f hf
      refine h.fb f ?_
      have h2 : f ∈ (burntP { d with queue := d.queue ++ [o] }).files := hf
      rwa [a] at h2
    · intro x hx
      have h2 : x ∈ (burntP { d with queue := d.queue ++ [o] }).queue := hx
      rw [b] at h2
      rcases List.mem_append.1 h2 with h3 | h3
      · exact h.ob x h3
      · obtain rfl := List.mem_singleton.1 h3
        exact ho

end Go.Proofs.Ytmfiopopiikbmaa
