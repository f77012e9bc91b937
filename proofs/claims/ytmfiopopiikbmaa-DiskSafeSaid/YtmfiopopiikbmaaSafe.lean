/-
  Plain mathematics of disks: what a crash leaves.
-/
import Derived.Test.YtmfiopopiikbmaaRise
import Derived.Test.YtmfiopopiikbmaaCrash
namespace Go.Proofs.Ytmfiopopiikbmaa

theorem look_head {x : FileP} {r : List FileP} : lookP (x :: r) x.name = some x.bytes := by
  unfold lookP
  rw [List.find?_cons_of_pos (by simp)]
  rfl
theorem look_tail {x : FileP} {r : List FileP} {s : ByteArray} (h : x.name ≠ s) : lookP (x :: r) s = lookP r s := look_skip [] r h
theorem look_some {l : List FileP} {s : ByteArray} {b : List Int} (h : lookP l s = some b) : ∃ f ∈ l, f.name = s ∧ f.bytes = b := by
  unfold lookP at h
  cases hf : l.find? (fun f => decide (f.name = s)) with
  | none => rw [hf] at h; cases h
  | some f =>
    rw [hf] at h
    have h1 := List.find?_some hf
    refine ⟨f, List.mem_of_find?_eq_some hf, by simpa using h1, ?_⟩
    simpa using h
/-- Rows that rise, of which each name looks up the same, are the same. -/
theorem sorted_ext {l m : List FileP} (hl : Sorted l) (hm : Sorted m) (h : ∀ s, lookP l s = lookP m s) : l = m := by
  induction l generalizing m with
  | nil =>
    cases m with
    | nil => rfl
    | cons y t =>
      have := h y.name
      rw [look_head] at this
      cases this
  | cons x r ih =>
    cases m with
    | nil =>
      have := h x.name
      rw [look_head] at this
      cases this
    | cons y t =>
      obtain ⟨a1, a2⟩ := List.pairwise_cons.1 hl
      obtain ⟨b1, b2⟩ := List.pairwise_cons.1 hm
      have hn : x.name = y.name := by
        obtain ⟨f, hf, hfn, _⟩ := look_some (show lookP (y :: t) x.name = some x.bytes by rw [← h, look_head])
        obtain ⟨g, hg, hgn, _⟩ := look_some (show lookP (x :: r) y.name = some y.bytes by rw [h, look_head])
        rcases List.mem_cons.1 hf with rfl | hf
        · exact hfn.symm
        · rcases List.mem_cons.1 hg with rfl | hg
          · exact hgn
          · have h1 := b1 f hf
            have h2 := a1 g hg
            rw [hfn] at h1
            rw [hgn] at h2
            rw [less_asymm h1] at h2
            cases h2
      have hb : x.bytes = y.bytes := by
        have h1 := h x.name
        rw [look_head, hn, look_head] at h1
        exact Option.some.inj h1
      have hxy : x = y := by
        cases x
        cases y
        simp only at hn hb
        rw [hn, hb]
      subst hxy
      rw [ih a2 b2 (fun s => ?_)]
      by_cases e : x.name = s
      · subst e
        rw [look_none (fun z hz => fun e => less_ne (a1 z hz) e.symm), look_none (fun z hz => fun e => less_ne (b1 z hz) e.symm)]
      · have h1 := h s
        rwa [look_tail e, look_tail e] at h1
/-- An append of nothing changes nothing. -/
theorem done_nothing {l : List FileP} (h : Sorted l) {o : OpP} (hk : o.kind = 2) (hb : o.bytes = []) : doneP l o = l := by
  by_cases hf : findG FileP.name l o.name < 0
  · exact done_gone (by omega) hf
  · rw [done_append hk hf, hb, List.append_nil]
    refine sorted_ext (h.with_ _) h (fun s => ?_)
    rw [look_with h]
    split
    · rename_i e
      simp only at e ⊢
      subst e
      rw [look_find, if_neg hf]
    · rfl
/-- What a crash leaves that tears nothing: the files behind a beginning of the queue. -/
theorem left_whole (d : DiskP) (K : Nat) : leftP d K 0 = allP d.files (d.queue.take K) := by
  cases ho : d.queue[K]? with
  | none => exact left_other (fun o h => by rw [ho] at h; cases h)
  | some o =>
    by_cases hk : o.kind = 2
    · rw [left_app ho hk]
      exact done_nothing (sorted_all _ _) hk (by rw [show cutP 0 o.bytes.length = 0 by unfold cutP; omega]; rfl)
    · exact left_other (fun o' h => by rw [ho] at h; cases h; exact hk)
/-- What a crash leaves that tears: each file is one behind the beginning, or begins one behind the operation more. -/
theorem left_torn (d : DiskP) (K : Nat) (torn : Int) : ∀ f ∈ leftP d K torn, f ∈ allP d.files (d.queue.take K) ∨ ∃ g ∈ allP d.files (d.queue.take (K + 1)), g.name = f.name ∧ f.bytes.length ≤ g.bytes.length ∧ g.bytes.take f.bytes.length = f.bytes := by
  intro f hf
  cases ho : d.queue[K]? with
  | none => rw [left_other (fun o h => by rw [ho] at h; cases h)] at hf; exact .inl hf
  | some o =>
    by_cases hk : o.kind = 2
    · rw [left_app ho hk] at hf
      have hn : allP d.files (d.queue.take (K + 1)) = doneP (allP d.files (d.queue.take K)) o := by
        unfold allP
        exact foldl_take doneP _ ho
      by_cases hm : findG FileP.name (allP d.files (d.queue.take K)) o.name < 0
      · rw [done_gone (o := { o with bytes := o.bytes.take (cutP torn o.bytes.length) }) (by show ¬ o.kind = 1; omega) hm] at hf
        exact .inl hf
      · rw [done_append (o := { o with bytes := o.bytes.take (cutP torn o.bytes.length) }) hk hm] at hf
        rcases with_mem FileP.name hf with rfl | hf
        · refine .inr ?_
          rw [hn, done_append hk hm]
          refine ⟨⟨o.name, atP (allP d.files (d.queue.take K)) (findG FileP.name (allP d.files (d.queue.take K)) o.name) ++ o.bytes⟩, ?_, rfl, ?_, ?_⟩
          · rw [with_eq]
            simp
          · simp only [List.length_append, List.length_take]
            omega
          · simp only [List.length_append, List.length_take]
            rw [List.take_append, List.take_of_length_le (by omega)]
            congr 1
            rw [show (atP (allP d.files (d.queue.take K)) (findG FileP.name (allP d.files (d.queue.take K)) o.name)).length + min (cutP torn o.bytes.length) o.bytes.length - (atP (allP d.files (d.queue.take K)) (findG FileP.name (allP d.files (d.queue.take K)) o.name)).length = min (cutP torn o.bytes.length) o.bytes.length by omega]
            rw [← List.take_take, List.take_length]
        · exact .inl hf
    · rw [left_other (fun o' h => by rw [ho] at h; cases h; exact hk)] at hf
      exact .inl hf

end Go.Proofs.Ytmfiopopiikbmaa
