/-
  Plain mathematics of disks: rows of files that rise, what a name looks up.
-/
import Derived.Test.YtmfiopopiikbmaaDiskQ
namespace Go.Proofs.Ytmfiopopiikbmaa

/-- The names rise. -/
def Sorted (l : List FileP) : Prop := l.Pairwise fun f g => lessL f.name g.name = true
theorem without_sub (l : List FileP) (k : Int) : (withoutG l k).Sublist l := by
  unfold withoutG
  split
  · exact List.Sublist.refl _
  · have h : (l.take k.toNat ++ (l.drop k.toNat).drop 1).Sublist (l.take k.toNat ++ l.drop k.toNat) := (List.Sublist.refl _).append (List.drop_sublist 1 _)
    rw [List.drop_drop, List.take_append_drop] at h
    exact h
theorem Sorted.without {l : List FileP} (h : Sorted l) (k : Int) : Sorted (withoutG l k) := List.Pairwise.sublist (without_sub l k) h
theorem split_at {l : List FileP} {k : Nat} {f : FileP} (h : l[k]? = some f) : l = l.take k ++ f :: l.drop (k + 1) := by
  obtain ⟨hlt, hk⟩ := List.getElem?_eq_some_iff.1 h
  rw [← hk, ← List.drop_eq_getElem_cons hlt, List.take_append_drop]
theorem without_eq (l : List FileP) (k : Nat) : withoutG l k = l.take k ++ l.drop (k + 1) := by
  unfold withoutG
  rw [if_neg (by omega), Int.toNat_natCast]
/-- Without a name: nothing has it. -/
theorem Sorted.gone {l : List FileP} (h : Sorted l) (s : ByteArray) : ∀ y ∈ withoutG l (findG FileP.name l s), y.name ≠ s := by
  by_cases hf : findG FileP.name l s < 0
  · intro y hy
    exact find_none FileP.name hf y (without_mem hy)
  · obtain ⟨k, f, hk, hfk, hn, _⟩ := find_found hf
    rw [hk, without_eq]
    have h1 := h
    unfold Sorted at h1
    rw [split_at hfk] at h1
    obtain ⟨_, h2, h3⟩ := List.pairwise_append.1 h1
    intro y hy
    rcases List.mem_append.1 hy with hy | hy
    · rw [← hn]
      exact less_ne (h3 y hy f (by simp))
    · rw [← hn]
      exact fun e => less_ne ((List.pairwise_cons.1 h2).1 y hy) e.symm
theorem take_while {α : Type} (q : α → Bool) (l : List α) : l.take (l.takeWhile q).length = l.takeWhile q ∧ l.drop (l.takeWhile q).length = l.dropWhile q := by
  induction l with
  | nil => exact ⟨rfl, rfl⟩
  | cons x r ih =>
    rw [List.takeWhile_cons, List.dropWhile_cons]
    cases q x
    · exact ⟨rfl, rfl⟩
    · simp only [if_true, List.length_cons, List.take_succ_cons, List.drop_succ_cons]
      exact ⟨by rw [ih.1], ih.2⟩
theorem while_true {α : Type} (q : α → Bool) (l : List α) : ∀ x ∈ l.takeWhile q, q x = true := by
  induction l with
  | nil => intro x hx; simp at hx
  | cons z r ih =>
    intro x hx
    rw [List.takeWhile_cons] at hx
    cases hz : q z
    · simp [hz] at hx
    · rw [hz] at hx
      rcases List.mem_cons.1 hx with rfl | hx
      · exact hz
      · exact ih x hx
theorem Sorted.behind {l : List FileP} (h : Sorted l) (s : ByteArray) : ∀ x ∈ l.dropWhile (fun f => lessL f.name s), lessL x.name s = false := by
  induction l with
  | nil => intro x hx; simp at hx
  | cons z r ih =>
    intro x hx
    rw [List.dropWhile_cons] at hx
    obtain ⟨h1, h2⟩ := List.pairwise_cons.1 h
    cases hz : lessL z.name s
    · simp only [hz, Bool.false_eq_true, if_false] at hx
      rcases List.mem_cons.1 hx with rfl | hx
      · exact hz
      · cases hl : lessL x.name s
        · rfl
        · rw [less_trans (h1 x hx) hl] at hz
          cases hz
    · simp only [hz, if_true] at hx
      exact ih h2 x hx
/-- With a file: it stands where it should. -/
theorem with_eq (l : List FileP) (f : FileP) : withG FileP.name l f =
    (withoutG l (findG FileP.name l f.name)).takeWhile (fun g => lessL g.name f.name) ++ f :: (withoutG l (findG FileP.name l f.name)).dropWhile (fun g => lessL g.name f.name) := by
  unfold withG placeG
  rw [(take_while _ _).1, (take_while _ _).2]
theorem Sorted.with_ {l : List FileP} (h : Sorted l) (f : FileP) : Sorted (withG FileP.name l f) := by
  have h1 := h.without (findG FileP.name l f.name)
  have h2 := h.gone f.name
  have h3 := h1.behind f.name
  rw [with_eq]
  have h4 := List.takeWhile_append_dropWhile (p := fun g : FileP => lessL g.name f.name) (l := withoutG l (findG FileP.name l f.name))
  have h5 := h1
  unfold Sorted at h5 ⊢
  rw [← h4] at h5
  obtain ⟨a, b, c⟩ := List.pairwise_append.1 h5
  have hgt : ∀ x ∈ (withoutG l (findG FileP.name l f.name)).dropWhile (fun g => lessL g.name f.name), lessL f.name x.name = true := fun x hx => by
    have h6 := h3 x hx
    have h7 : x.name ≠ f.name := h2 x ((List.dropWhile_sublist _).subset hx)
    cases h8 : lessL f.name x.name
    · exact absurd (less_total h6 h8) h7
    · rfl
  refine List.pairwise_append.2 ⟨a, List.pairwise_cons.2 ⟨hgt, b⟩, fun x hx y hy => ?_⟩
  have hx1 : lessL x.name f.name = true := while_true _ _ x hx
  rcases List.mem_cons.1 hy with rfl | hy
  · exact hx1
  · exact c x hx y hy
theorem Sorted.done {l : List FileP} (h : Sorted l) (o : OpP) : Sorted (doneP l o) := by
  unfold doneP
  split
  · exact h.with_ _
  · split
    · exact h
    · split
      · exact h.with_ _
      · split
        · exact (h.without _).with_ _
        · split
          · exact h.without _
          · exact h
theorem sorted_firsts (files : List FileP) : Sorted (firstsP files) := by
  rw [firsts_eq]
  have key : ∀ (l : List FileP), Sorted l → Sorted (files.foldl firstStep l) := by
    induction files with
    | nil => intro l h; exact h
    | cons f r ih =>
      intro l h
      rw [List.foldl_cons]
      refine ih _ ?_
      unfold firstStep
      split
      · exact h.with_ _
      · exact h
  exact key [] List.Pairwise.nil
theorem sorted_dones (q : List OpP) : ∀ l : List FileP, Sorted l → Sorted (q.foldl doneP l) := by
  induction q with
  | nil => intro l h; exact h
  | cons o r ih =>
    intro l h
    rw [List.foldl_cons]
    exact ih _ (h.done o)
theorem sorted_all (files : List FileP) (q : List OpP) : Sorted (allP files q) := sorted_dones q _ (sorted_firsts files)
theorem sorted_now (d : DiskP) : Sorted (nowP d) := sorted_all _ _

/-- What a name looks up. -/
def lookP (l : List FileP) (s : ByteArray) : Option (List Int) := (l.find? fun f => decide (f.name = s)).map FileP.bytes
theorem look_find (l : List FileP) (s : ByteArray) : lookP l s = if findG FileP.name l s < 0 then none else some (atP l (findG FileP.name l s)) := by
  induction l with
  | nil => rfl
  | cons x r ih =>
    unfold lookP at ih ⊢
    unfold findG
    by_cases hx : x.name = s
    · rw [List.find?_cons_of_pos (by simpa using hx), if_pos hx, if_neg (by decide)]
      rfl
    · rw [List.find?_cons_of_neg (by simpa using hx), if_neg hx, ih]
      by_cases hr : findG FileP.name r s < 0
      · rw [if_pos hr, if_pos hr]
        rfl
      · rw [if_neg hr, if_neg hr, if_neg (by omega)]
        unfold atP
        rw [show (findG FileP.name r s + 1).toNat = (findG FileP.name r s).toNat + 1 by omega, List.getElem?_cons_succ]
theorem look_none {l : List FileP} {s : ByteArray} (h : ∀ y ∈ l, y.name ≠ s) : lookP l s = none := by
  unfold lookP
  rw [List.find?_eq_none.2 (fun y hy => by simpa using h y hy)]
  rfl
theorem look_skip (l m : List FileP) {f : FileP} {s : ByteArray} (h : f.name ≠ s) : lookP (l ++ f :: m) s = lookP (l ++ m) s := by
  unfold lookP
  rw [List.find?_append, List.find?_append, List.find?_cons_of_neg (by simpa using h)]
theorem look_without {l : List FileP} (h : Sorted l) (a s : ByteArray) : lookP (withoutG l (findG FileP.name l a)) s = if a = s then none else lookP l s := by
  by_cases e : a = s
  · subst e
    rw [if_pos rfl]
    exact look_none (h.gone a)
  · rw [if_neg e]
    by_cases hf : findG FileP.name l a < 0
    · unfold withoutG
      rw [if_pos hf]
    · obtain ⟨k, f, hk, hfk, hn, _⟩ := find_found hf
      rw [hk, without_eq, ← look_skip _ _ (f := f) (by rw [hn]; exact e), ← split_at hfk]
theorem look_with {l : List FileP} (h : Sorted l) (f : FileP) (s : ByteArray) : lookP (withG FileP.name l f) s = if f.name = s then some f.bytes else lookP l s := by
  rw [with_eq]
  by_cases e : f.name = s
  · subst e
    rw [if_pos rfl]
    unfold lookP
    rw [List.find?_append, List.find?_eq_none.2 (fun y hy => by simpa using h.gone f.name y ((List.takeWhile_sublist _).subset hy)), List.find?_cons_of_pos (by simp)]
    rfl
  · rw [if_neg e, look_skip _ _ e, List.takeWhile_append_dropWhile, look_without h, if_neg e]
theorem read_look (d : DiskP) (s : ByteArray) : readP d s = match lookP (nowP d) s with | none => ([], 42) | some b => (b, 0) := by
  unfold readP
  rw [look_find]
  by_cases h : findG FileP.name (nowP d) s < 0
  · rw [if_pos h, if_pos h]
  · rw [if_neg h, if_neg h]

end Go.Proofs.Ytmfiopopiikbmaa
